import Derived.Test.YtgohjkblfojmaaaDoorF1
import Derived.Test.YtgohjkblfojmaaaDoorQ1
/-! JsonvalForm (function 5), walked. -/
namespace Go.Proofs.YtgohjkblfojmaaaDoor
open Go Go.RowKit Go.Maps
set_option maxHeartbeats 1000000 in
theorem print_long (j : J) (lo hi : Nat) (w : World) (kd x : Int) (s : ByteArray) (a1 : Option Addr) (l1 c1 : Nat) (a2 : Option Addr) (l2 c2 : Nat) (hr : Rep w lo hi j (five kd x s (.slice a1 l1 c1) (.slice a2 l2 c2))) (hh : hi ≤ w.heap.size) (hok : okJ 0 j) (hsm : smJ j) (hlen : 65536 < lenJ j) (hlen2 : lenJ j ≤ 1000000000) (hE : EnvP w) :
    Calls Tryd.prog 9 #[.agg #[.int .i64 kd, .int .i64 x, .string s, .slice a1 l1 c1, .slice a2 l2 c2]] w fun e w' => e = .returned (.tuple #[.string ⟨#[]⟩, .int .i64 1]) ∧ Below w.heap.size w w' := by
  have h8 := hE.big
  have HC1 : Hid (∀ w', Below w.heap.size w w' → Calls Tryd.prog 12 #[.agg #[.int .i64 kd, .int .i64 x, .string s, .slice a1 l1 c1, .slice a2 l2 c2]] w' fun e w'' => e = .returned (.int .i64 0) ∧ Below w'.heap.size w' w'') := fun w' hb =>
    check_top j lo hi w' kd x s a1 l1 c1 a2 l2 c2 (Rep.keep j _ hr (fun k ka kb => hb.block k (by omega))) (by have := hb.size; omega) hok (utf_below hE.utf hb h8) (by have := hb.size; omega)
  have HC2 : Hid (∀ w', Below w.heap.size w w' → Calls Tryd.prog 13 #[.agg #[.int .i64 kd, .int .i64 x, .string s, .slice a1 l1 c1, .slice a2 l2 c2]] w' fun e w'' => e = .returned (.int .i64 (lenJ j : Nat)) ∧ Below w'.heap.size w' w'') := fun w' hb =>
    len_all j lo hi w' kd x s a1 l1 c1 a2 l2 c2 (Rep.keep j _ hr (fun k ka kb => hb.block k (by omega))) (by have := hb.size; omega) hsm (by omega) (hE.below hb h8)
  have hB : ∀ o, Below w.heap.size w (w.alloc o) := fun o => (Below.refl _ _).alloc (Nat.le_refl _) _
  have hl : (65536 : Int) < ((lenJ j : Nat) : Int) := by omega
  have hl2 : ((lenJ j : Nat) : Int) ≤ 1000000000 := by omega
  clear hr hh hok hsm hE
  go_enter Tryd.func9, Tryd.ntmps9
  go_wp2_with fail
  refine (HC1.out _ (hB _)).mono ?_
  rintro e w1 ⟨rfl, hb1⟩
  have hbw1 := (hB _).trans (hb1.mono (by simp))
  have u0 : w1.cell? ⟨w.heap.size, 0, none⟩ = some (.int .i64 kd) := box_cells (by simpa using hb1) 0
  have u1 : w1.cell? ⟨w.heap.size, 1, none⟩ = some (.int .i64 x) := box_cells (by simpa using hb1) 1
  have u2 : w1.cell? ⟨w.heap.size, 2, none⟩ = some (.string s) := box_cells (by simpa using hb1) 2
  have u3 : w1.cell? ⟨w.heap.size, 3, none⟩ = some (.slice a1 l1 c1) := box_cells (by simpa using hb1) 3
  have u4 : w1.cell? ⟨w.heap.size, 4, none⟩ = some (.slice a2 l2 c2) := box_cells (by simpa using hb1) 4
  clear hb1
  go_wp2_with fail
  refine (HC2.out w1 hbw1).mono ?_
  rintro e w2 ⟨rfl, hb2⟩
  have hbw2 := hbw1.trans (hb2.mono hbw1.size)
  clear u0 u1 u2 u3 u4 hb2
  go_wp2_with fail
  go_ret2
  exact ⟨rfl, hbw2⟩
/-- What Parse tells, and where the value lies. -/
def PR (w : World) (e : Ending) (w' : World) : Res J → Prop
  | .ok j _ => ∃ (kd x : Int) (s : ByteArray) (a1 : Option Addr) (l1 c1 : Nat) (a2 : Option Addr) (l2 c2 : Nat), e = .returned (.tuple #[.agg #[.int .i64 kd, .int .i64 x, .string s, .slice a1 l1 c1, .slice a2 l2 c2], .int .i64 0, .int .i64 0]) ∧ Rep w' w.heap.size w'.heap.size j (five kd x s (.slice a1 l1 c1) (.slice a2 l2 c2))
  | .bad er p => ∃ (kd x : Int) (s : ByteArray) (a1 : Option Addr) (l1 c1 : Nat) (a2 : Option Addr) (l2 c2 : Nat), e = .returned (.tuple #[.agg #[.int .i64 kd, .int .i64 x, .string s, .slice a1 l1 c1, .slice a2 l2 c2], .int .i64 (er : Int), .int .i64 (p : Int)])
set_option maxHeartbeats 2000000 in
theorem form_bad (T : ByteArray) (w : World) (er q : Nat) (h0 : er ≠ 0)
   (HP : Hid (Calls Tryd.prog 8 #[.string T] w fun e w'' => PR w e w'' (.bad er q) ∧ Below w.heap.size w w''))
   (HL : Hid (∀ w', Below w.heap.size w w' → Calls Tryd.prog 7 #[] w' fun e w'' => e = .returned (.bool true) ∧ Below w'.heap.size w' w'')) :
    Calls Tryd.prog 5 #[.string T] w fun e w' => e = .returned (.bool true) ∧ Below w.heap.size w w' := by
  have e0 : ((er : Int) == 0) = false := by simp; omega
  go_enter Tryd.func5, Tryd.ntmps5
  go_wp2_with fail
  refine HP.out.mono ?_
  rintro e w1 ⟨⟨kd, x, s, a1, l1, c1, a2, l2, c2, rfl⟩, hb1⟩
  have hbx := hb1.alloc hb1.size (.cells #[.int .i64 kd, .int .i64 x, .string s, .slice a1 l1 c1, .slice a2 l2 c2] 28)
  go_wp2_with fail
  refine (num_any er _).mono ?_
  rintro e w2 ⟨rfl, rfl⟩
  go_wp2_with fail
  refine (HL.out _ hbx).mono ?_
  rintro e w3 ⟨rfl, hb3⟩
  have hbw3 := hbx.trans (hb3.mono hbx.size)
  go_wp2_with fail
  go_ret
  exact ⟨rfl, hbw3⟩
set_option maxHeartbeats 2000000 in
theorem form_long (T : ByteArray) (w : World) (j : J)
   (HP : Hid (Calls Tryd.prog 8 #[.string T] w fun e w'' => PR w e w'' (.ok j 0) ∧ Below w.heap.size w w''))
   (HQ : Hid (∀ (w' : World) (hi : Nat) (kd x : Int) (s : ByteArray) (a1 : Option Addr) (l1 c1 : Nat) (a2 : Option Addr) (l2 c2 : Nat), Below w.heap.size w w' → Rep w' w.heap.size hi j (five kd x s (.slice a1 l1 c1) (.slice a2 l2 c2)) → hi ≤ w'.heap.size → Calls Tryd.prog 9 #[.agg #[.int .i64 kd, .int .i64 x, .string s, .slice a1 l1 c1, .slice a2 l2 c2]] w' fun e w'' => e = .returned (.tuple #[.string ⟨#[]⟩, .int .i64 1]) ∧ Below w'.heap.size w' w''))
   (HL : Hid (∀ w', Below w.heap.size w w' → Calls Tryd.prog 7 #[] w' fun e w'' => e = .returned (.bool true) ∧ Below w'.heap.size w' w'')) :
    Calls Tryd.prog 5 #[.string T] w fun e w' => e = .returned (.bool true) ∧ Below w.heap.size w w' := by
  go_enter Tryd.func5, Tryd.ntmps5
  go_wp2_with fail
  refine HP.out.mono ?_
  rintro e w1 ⟨⟨kd, x, s, a1, l1, c1, a2, l2, c2, rfl, hrep⟩, hb1⟩
  have hbx := hb1.alloc hb1.size (.cells #[.int .i64 kd, .int .i64 x, .string s, .slice a1 l1 c1, .slice a2 l2 c2] 28)
  have HR : Hid (Rep (w1.alloc (.cells #[.int .i64 kd, .int .i64 x, .string s, .slice a1 l1 c1, .slice a2 l2 c2] 28)) w.heap.size w1.heap.size j (five kd x s (.slice a1 l1 c1) (.slice a2 l2 c2))) := Rep.keep j _ hrep (fun k _ kb => heap_alloc_old w1 _ kb)
  clear hrep hb1
  go_wp2_with fail
  refine (num_any 0 _).mono ?_
  rintro e w2 ⟨rfl, rfl⟩
  go_wp2_with fail
  refine (HQ.out _ w1.heap.size kd x s a1 l1 c1 a2 l2 c2 hbx HR.out (by simp)).mono ?_
  rintro e w2 ⟨rfl, hb2⟩
  have hbw2 := hbx.trans (hb2.mono hbx.size)
  clear hb2
  go_wp2_with fail
  refine (num_any 1 _).mono ?_
  rintro e w3 ⟨rfl, rfl⟩
  go_wp2_with fail
  refine (num_any 1 _).mono ?_
  rintro e w3 ⟨rfl, rfl⟩
  go_wp2_with fail
  refine (HL.out _ hbw2).mono ?_
  rintro e w3 ⟨rfl, hb3⟩
  have hbw3 := hbw2.trans (hb3.mono hbw2.size)
  go_wp2_with fail
  go_ret
  exact ⟨rfl, hbw3⟩
set_option maxHeartbeats 2000000 in
theorem form_ok (T S : ByteArray) (w : World) (j : J)
   (HP : Hid (Calls Tryd.prog 8 #[.string T] w fun e w'' => PR w e w'' (.ok j 0) ∧ Below w.heap.size w w''))
   (HQ : Hid (∀ (w' : World) (lo hi : Nat) (kd x : Int) (s : ByteArray) (a1 : Option Addr) (l1 c1 : Nat) (a2 : Option Addr) (l2 c2 : Nat), Below w.heap.size w w' → Rep w' lo hi j (five kd x s (.slice a1 l1 c1) (.slice a2 l2 c2)) → hi ≤ w'.heap.size → Calls Tryd.prog 9 #[.agg #[.int .i64 kd, .int .i64 x, .string s, .slice a1 l1 c1, .slice a2 l2 c2]] w' fun e w'' => e = .returned (.tuple #[.string S, .int .i64 0]) ∧ Below w'.heap.size w' w''))
   (HP2 : Hid (∀ w', Below w.heap.size w w' → Calls Tryd.prog 8 #[.string S] w' fun e w'' => PR w' e w'' (.ok j 0) ∧ Below w'.heap.size w' w''))
   (HE : Hid (∀ (w' : World) (lo hi lo' hi' : Nat) (kd x : Int) (s : ByteArray) (a1 : Option Addr) (l1 c1 : Nat) (a2 : Option Addr) (l2 c2 : Nat) (b1 : Option Addr) (d1 : Nat) (b2 : Option Addr) (d2 : Nat), Rep w' lo hi j (five kd x s (.slice a1 l1 c1) (.slice a2 l2 c2)) → Rep w' lo' hi' j (five kd x s (.slice b1 l1 d1) (.slice b2 l2 d2)) → hi ≤ w'.heap.size → hi' ≤ w'.heap.size → Calls Tryd.prog 10 #[.agg #[.int .i64 kd, .int .i64 x, .string s, .slice a1 l1 c1, .slice a2 l2 c2], .agg #[.int .i64 kd, .int .i64 x, .string s, .slice b1 l1 d1, .slice b2 l2 d2]] w' fun e w'' => e = .returned (.bool true) ∧ Below w'.heap.size w' w''))
   (HL : Hid (∀ w', Below w.heap.size w w' → Calls Tryd.prog 7 #[] w' fun e w'' => e = .returned (.bool true) ∧ Below w'.heap.size w' w'')) :
    Calls Tryd.prog 5 #[.string T] w fun e w' => e = .returned (.bool true) ∧ Below w.heap.size w w' := by
  go_enter Tryd.func5, Tryd.ntmps5
  go_wp2_with fail
  refine HP.out.mono ?_
  rintro e w1 ⟨⟨kd, x, s, a1, l1, c1, a2, l2, c2, rfl, hrep⟩, hb1⟩
  have hbx := hb1.alloc hb1.size (.cells #[.int .i64 kd, .int .i64 x, .string s, .slice a1 l1 c1, .slice a2 l2 c2] 28)
  have HR : Hid (Rep (w1.alloc (.cells #[.int .i64 kd, .int .i64 x, .string s, .slice a1 l1 c1, .slice a2 l2 c2] 28)) w.heap.size w1.heap.size j (five kd x s (.slice a1 l1 c1) (.slice a2 l2 c2))) := Rep.keep j _ hrep (fun k _ kb => heap_alloc_old w1 _ kb)
  have HV : Hid ((w1.alloc (.cells #[.int .i64 kd, .int .i64 x, .string s, .slice a1 l1 c1, .slice a2 l2 c2] 28)).heap[w1.heap.size]? = some (.cells #[.int .i64 kd, .int .i64 x, .string s, .slice a1 l1 c1, .slice a2 l2 c2] 28 (0, 0))) := heap_alloc_new w1 _
  have HS1 : Hid ((w1.alloc (.cells #[.int .i64 kd, .int .i64 x, .string s, .slice a1 l1 c1, .slice a2 l2 c2] 28)).heap.size = w1.heap.size + 1) := by unfold Hid; simp
  clear hrep hb1
  go_wp2_with fail
  refine (num_any 0 _).mono ?_
  rintro e w2 ⟨rfl, rfl⟩
  go_wp2_with fail
  refine (HQ.out _ w.heap.size w1.heap.size kd x s a1 l1 c1 a2 l2 c2 hbx HR.out (by rw [HS1.out]; omega)).mono ?_
  rintro e w2 ⟨rfl, hb2⟩
  have hbw2 := hbx.trans (hb2.mono hbx.size)
  have hs2 : w1.heap.size + 1 ≤ w2.heap.size := by have := hb2.size; rw [HS1.out] at this; exact this
  have HR2 : Hid (Rep w2 w.heap.size w1.heap.size j (five kd x s (.slice a1 l1 c1) (.slice a2 l2 c2))) := Rep.keep j _ HR.out (fun k _ kb => hb2.block k (by rw [HS1.out]; omega))
  have HV2 : Hid (w2.heap[w1.heap.size]? = some (.cells #[.int .i64 kd, .int .i64 x, .string s, .slice a1 l1 c1, .slice a2 l2 c2] 28 (0, 0))) := (hb2.block w1.heap.size (by rw [HS1.out]; omega)).trans HV.out
  clear hb2 hbx HR HV HS1
  go_wp2_with fail
  refine (num_any 0 _).mono ?_
  rintro e w3 ⟨rfl, rfl⟩
  go_wp2_with fail
  refine (HP2.out _ hbw2).mono ?_
  rintro e w4 ⟨⟨kd', x', s', b1, m1, d1, b2, m2, d2, rfl, hrep⟩, hb4⟩
  have HR4 := hid' (Rep.keep j _ HR2.out (w' := w4) (fun k _ kb => hb4.block k (by omega)))
  obtain ⟨rfl, rfl, rfl, rfl, rfl⟩ := Rep.same j HR4.out hrep
  have hbw4 := hbw2.trans (hb4.mono hbw2.size)
  have hby := hbw4.alloc hbw4.size (.cells #[.int .i64 kd, .int .i64 x, .string s, .slice b1 l1 d1, .slice b2 l2 d2] 28)
  have hs4 := hb4.size
  have HV4 : Hid (w4.heap[w1.heap.size]? = some (.cells #[.int .i64 kd, .int .i64 x, .string s, .slice a1 l1 c1, .slice a2 l2 c2] 28 (0, 0))) := (hb4.block w1.heap.size (by omega)).trans HV2.out
  have HA : Hid (∀ k, k < w4.heap.size → (w4.alloc (.cells #[.int .i64 kd, .int .i64 x, .string s, .slice b1 l1 d1, .slice b2 l2 d2] 28)).heap[k]? = w4.heap[k]?) := fun k hk => heap_alloc_old w4 _ hk
  have HN : Hid ((w4.alloc (.cells #[.int .i64 kd, .int .i64 x, .string s, .slice b1 l1 d1, .slice b2 l2 d2] 28)).heap[w4.heap.size]? = some (.cells #[.int .i64 kd, .int .i64 x, .string s, .slice b1 l1 d1, .slice b2 l2 d2] 28 (0, 0))) := heap_alloc_new w4 _
  have HS5 : Hid ((w4.alloc (.cells #[.int .i64 kd, .int .i64 x, .string s, .slice b1 l1 d1, .slice b2 l2 d2] 28)).heap.size = w4.heap.size + 1) := by unfold Hid; simp
  have HRA : Hid (Rep (w4.alloc (.cells #[.int .i64 kd, .int .i64 x, .string s, .slice b1 l1 d1, .slice b2 l2 d2] 28)) w.heap.size w1.heap.size j (five kd x s (.slice a1 l1 c1) (.slice a2 l2 c2))) := Rep.keep j _ HR4.out (fun k _ kb => HA.out k (by omega))
  have HRB : Hid (Rep (w4.alloc (.cells #[.int .i64 kd, .int .i64 x, .string s, .slice b1 l1 d1, .slice b2 l2 d2] 28)) w3.heap.size w4.heap.size j (five kd x s (.slice b1 l1 d1) (.slice b2 l2 d2))) := Rep.keep j _ hrep (fun k _ kb => HA.out k kb)
  have HVA : Hid ((w4.alloc (.cells #[.int .i64 kd, .int .i64 x, .string s, .slice b1 l1 d1, .slice b2 l2 d2] 28)).heap[w1.heap.size]? = some (.cells #[.int .i64 kd, .int .i64 x, .string s, .slice a1 l1 c1, .slice a2 l2 c2] 28 (0, 0))) := (HA.out _ (by omega)).trans HV4.out
  clear hrep hb4 hbw4 HR4 HV4 HA HR2 HV2
  go_wp2_with fail
  refine (HQ.out _ w3.heap.size w4.heap.size kd x s b1 l1 d1 b2 l2 d2 hby HRB.out (by rw [HS5.out]; omega)).mono ?_
  rintro e w5 ⟨rfl, hb5⟩
  have hbw5 := hby.trans (hb5.mono hby.size)
  have hs5 : w4.heap.size + 1 ≤ w5.heap.size := by have := hb5.size; rw [HS5.out] at this; exact this
  have HR5 := hid' (Rep.keep j _ HRA.out (w' := w5) (fun k _ kb => hb5.block k (by rw [HS5.out]; omega)))
  have HR6 := hid' (Rep.keep j _ HRB.out (w' := w5) (fun k _ kb => hb5.block k (by rw [HS5.out]; omega)))
  have hv := (hb5.block w1.heap.size (by rw [HS5.out]; omega)).trans HVA.out
  have hv' := (hb5.block w4.heap.size (by rw [HS5.out]; omega)).trans HN.out
  have y0 : w5.cell? ⟨w1.heap.size, 0, none⟩ = some (.int .i64 kd) := cell_of hv 0
  have y1 : w5.cell? ⟨w1.heap.size, 1, none⟩ = some (.int .i64 x) := cell_of hv 1
  have y2 : w5.cell? ⟨w1.heap.size, 2, none⟩ = some (.string s) := cell_of hv 2
  have y3 : w5.cell? ⟨w1.heap.size, 3, none⟩ = some (.slice a1 l1 c1) := cell_of hv 3
  have y4 : w5.cell? ⟨w1.heap.size, 4, none⟩ = some (.slice a2 l2 c2) := cell_of hv 4
  have z0 : w5.cell? ⟨w4.heap.size, 0, none⟩ = some (.int .i64 kd) := cell_of hv' 0
  have z1 : w5.cell? ⟨w4.heap.size, 1, none⟩ = some (.int .i64 x) := cell_of hv' 1
  have z2 : w5.cell? ⟨w4.heap.size, 2, none⟩ = some (.string s) := cell_of hv' 2
  have z3 : w5.cell? ⟨w4.heap.size, 3, none⟩ = some (.slice b1 l1 d1) := cell_of hv' 3
  have z4 : w5.cell? ⟨w4.heap.size, 4, none⟩ = some (.slice b2 l2 d2) := cell_of hv' 4
  clear hv hv' hb5 hby HRA HRB HVA HN HS5
  go_wp2_with fail
  refine (num_any 0 _).mono ?_
  rintro e w6 ⟨rfl, rfl⟩
  go_wp2_with fail
  refine (HE.out w6 w.heap.size w1.heap.size w3.heap.size w4.heap.size kd x s a1 l1 c1 a2 l2 c2 b1 d1 b2 d2 HR5.out HR6.out (by omega) (by omega)).mono ?_
  rintro e w7 ⟨rfl, hb7⟩
  have hbw7 := hbw5.trans (hb7.mono hbw5.size)
  clear y0 y1 y2 y3 y4 z0 z1 z2 z3 z4 hb7
  go_wp2_with fail
  refine (num_any 0 _).mono ?_
  rintro e w8 ⟨rfl, rfl⟩
  go_wp2_with fail
  refine (HL.out _ hbw7).mono ?_
  rintro e w9 ⟨rfl, hb9⟩
  have hbw9 := hbw7.trans (hb9.mono hbw7.size)
  go_wp2_with fail
  go_ret
  exact ⟨rfl, hbw9⟩

theorem parse_rep (T : ByteArray) (w : World) (hE : Env w) (h8 : 8 ≤ w.heap.size) :
    Calls Tryd.prog 8 #[.string T] w fun e w' => PR w e w' (parsed T) ∧ Below w.heap.size w w' := by
  unfold parsed
  by_cases hT : T.size ≤ 65536
  · rw [if_pos hT]
    refine (parse_any T (textR T) (quoted_g T hT) w hE h8 hT).mono ?_
    rintro e w' ⟨hp, hb⟩
    refine ⟨?_, hb⟩
    cases hr : wholeR T (textR T) with
    | ok j n =>
      rw [hr] at hp
      exact hp
    | bad er p =>
      rw [hr] at hp
      have hp' : e = _ := hp
      exact ⟨0, 0, noS, none, 0, 0, none, 0, 0, hp'⟩
  · rw [if_neg hT]
    refine (parse_long T w (by omega)).mono ?_
    rintro e w' ⟨he, hb⟩
    exact ⟨⟨0, 0, noS, none, 0, 0, none, 0, 0, he⟩, hb⟩
theorem parsed_ok {T : ByteArray} {j : J} {n : Nat} (h : parsed T = .ok j n) : T.size ≤ 65536 ∧ wholeR T (textR T) = .ok j n := by
  unfold parsed at h
  split at h
  · exact ⟨by assumption, h⟩
  · cases h
theorem parsed_text (j : J) (ho : okJ 0 j) (hs : smJ j) (hw : wfJ j) (hl : lenJ j ≤ 65536) : parsed ⟨(textJ j).toArray⟩ = .ok j 0 := by
  have hsz : (⟨(textJ j).toArray⟩ : ByteArray).size = lenJ j := by
    show (textJ j).toArray.size = _
    rw [List.size_toArray, text_len j hw]
  unfold parsed
  rw [if_pos (by omega)]
  exact whole_back j ho hs hw
theorem form_true (T : ByteArray) (w : World) (hE : Env w) (hP : EnvP w) : Calls Tryd.prog 5 #[.string T] w fun e w' => e = .returned (.bool true) ∧ Below w.heap.size w w' := by
  have h8 := hP.big
  have HL : Hid (∀ w', Below w.heap.size w w' → Calls Tryd.prog 7 #[] w' fun e w'' => e = .returned (.bool true) ∧ Below w'.heap.size w' w'') := fun w' hb => live_true w' (hE.below hb h8) (hP.below' hb)
  have hpr := parse_rep T w hE h8
  rcases parsed_cases T with ⟨j, h⟩ | ⟨e, q, h, h0, _, _⟩
  · rw [h] at hpr
    obtain ⟨hT, hwh⟩ := parsed_ok h
    obtain ⟨ho, hs, hw, hl⟩ := whole_good hT hwh
    by_cases hlen : lenJ j ≤ 65536
    · refine form_ok T ⟨(textJ j).toArray⟩ w j hpr (fun w' lo hi kd x s a1 l1 c1 a2 l2 c2 hb hr hh => ?_) (fun w' hb => ?_) (fun w' lo hi lo' hi' kd x s a1 l1 c1 a2 l2 c2 b1 d1 b2 d2 hr hr' hh hh' => ?_) HL
      · exact print_any j lo hi w' kd x s a1 l1 c1 a2 l2 c2 hr hh ho hs hlen (by rw [text_len j hw]; omega) (hP.below' hb)
      · have := parse_rep ⟨(textJ j).toArray⟩ w' (hE.below hb h8) (by have := hb.size; omega)
        rw [parsed_text j ho hs hw hlen] at this
        exact this
      · exact equal_all j lo hi lo' hi' w' kd x s a1 l1 c1 a2 l2 c2 b1 d1 b2 d2 hr hr' hh hh' hs hw
    · refine form_long T w j hpr (fun w' hi kd x s a1 l1 c1 a2 l2 c2 hb hr hh => ?_) HL
      exact print_long j w.heap.size hi w' kd x s a1 l1 c1 a2 l2 c2 hr hh ho hs (by omega) (by omega) (hP.below' hb)
  · rw [h] at hpr
    exact form_bad T w e q h0 hpr HL
end Go.Proofs.YtgohjkblfojmaaaDoor
