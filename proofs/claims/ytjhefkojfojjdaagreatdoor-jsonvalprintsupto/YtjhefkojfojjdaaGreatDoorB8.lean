import Derived.Test.YtjhefkojfojjdaaGreatDoorBJ
/-! Check, Size and Print of every value. -/
namespace Go.Proofs.YtjhefkojfojjdaaGreatDoor.Tree
open Go Go.RowKit Go.Maps

theorem check_code (t : Tr) (k x : Int) (s : ByteArray) (an : Option Addr) (ln cn : Nat) (ai : Option Addr) (li ci : Nat) (w : World) (hV : VRep w t (five k x s (.slice an ln cn) (.slice ai li ci))) (hS : SmallT t) (hU : Lib.Utf8Tabs 1 2 w) (h8 : 8 ≤ w.heap.size) :
    Calls Tryz.prog 9 #[.agg #[.int .i64 k, .int .i64 x, .string s, .slice an ln cn, .slice ai li ci]] w fun e w' => e = .returned (.int .i64 (checkT 0 t)) ∧ Below w.heap.size w w' := by
  have hB : ∀ o, Below w.heap.size w (w.alloc o) := fun o => (Below.refl _ _).alloc (Nat.le_refl _) _
  have hcall := fun o => hid_e (check_deep t 0 _ (w.alloc o) (by omega) (VRep.keep (hB o) _ _ hV) hS (utf_below hU (hB o) h8) (by rw [World.size_alloc]; omega))
  obtain ⟨c, hc⟩ : ∃ c, Hid (checkT 0 t = c) := ⟨_, hid_e rfl⟩
  rw [hc.out] at hcall ⊢
  go_enter Tryz.func9, Tryz.ntmps9
  go_wp2_with fail
  go_fit (hcall _).out
  rintro e w1 ⟨rfl, hb1⟩
  go_wp2_with fail
  go_ret
  exact ⟨rfl, below_box hb1⟩

/-- What Print tells of a value: its text, its error. -/
def printE (t : Tr) : Int := if checkT 0 t = 0 then (if lenT t ≤ 65536 then 0 else 1) else checkT 0 t
def printS (t : Tr) : ByteArray := if printE t = 0 then ⟨(textT t).toArray⟩ else ⟨#[]⟩
set_option maxHeartbeats 2000000 in
set_option maxRecDepth 100000 in
theorem print_code (t : Tr) (k x : Int) (s : ByteArray) (an : Option Addr) (ln cn : Nat) (ai : Option Addr) (li ci : Nat) (w : World) (hV : Hid (VRep w t (five k x s (.slice an ln cn) (.slice ai li ci)))) (hS : Hid (SmallT t)) (hR : Hid (RangeT t)) (hT : lenT t ≤ 9000000000000000000) (hE : Hid (EnvP w)) :
    Calls Tryz.prog 6 #[.agg #[.int .i64 k, .int .i64 x, .string s, .slice an ln cn, .slice ai li ci]] w fun e w' => e = .returned (.tuple #[.string (printS t), .int .i64 (printE t)]) ∧ Below w.heap.size w w' := by
  have h8 := hE.out.big
  have hB : ∀ o, Below w.heap.size w (w.alloc o) := fun o => (Below.refl _ _).alloc (Nat.le_refl _) _
  have hcall := fun o => hid_e (check_code t k x s an ln cn ai li ci (w.alloc o) (VRep.keep (hB o) _ _ hV.out) hS.out (utf_below hE.out.utf (hB o) h8) (by rw [World.size_alloc]; omega))
  obtain ⟨c, hc⟩ : ∃ c, Hid (checkT 0 t = c) := ⟨_, hid_e rfl⟩
  obtain ⟨pe, hpe⟩ : ∃ c, Hid (printE t = c) := ⟨_, hid_e rfl⟩
  obtain ⟨ps, hps⟩ : ∃ c, Hid (printS t = c) := ⟨_, hid_e rfl⟩
  have HPE : Hid (pe = if c = 0 then (if lenT t ≤ 65536 then 0 else 1) else c) := by rw [Hid, ← hpe.out, printE, hc.out]
  have HPS : Hid (ps = if pe = 0 then ⟨(textT t).toArray⟩ else ⟨#[]⟩) := by rw [Hid, ← hps.out, printS, hpe.out]
  rw [hc.out] at hcall
  rw [hpe.out, hps.out]
  go_enter Tryz.func6, Tryz.ntmps6
  go_wp2_with fail
  go_fit (hcall _).out
  rintro e w1 ⟨rfl, hb1⟩
  clear hcall
  have hbx := hid_e hb1
  have hbw1 := below_box hb1
  by_cases h0 : c = 0
  · subst h0
    have hlen := hid_e (len_any t 0 _ w1 hc.out (VRep.keep hbw1 _ _ hV.out) hS.out hR.out hT (hE.out.below hbw1 h8))
    obtain ⟨L, hL⟩ : ∃ L, Hid (lenT t = L) := ⟨_, hid_e rfl⟩
    rw [hL.out] at hlen hT
    have HPE' : Hid (pe = if L ≤ 65536 then 0 else 1) := by have h1 := HPE.out; rw [if_pos rfl, hL.out] at h1; exact h1
    have u0 : w1.cell? ⟨w.heap.size, 0, none⟩ = some (.int .i64 k) := box_cells hb1 0
    have u1 : w1.cell? ⟨w.heap.size, 1, none⟩ = some (.int .i64 x) := box_cells hb1 1
    have u2 : w1.cell? ⟨w.heap.size, 2, none⟩ = some (.string s) := box_cells hb1 2
    have u3 : w1.cell? ⟨w.heap.size, 3, none⟩ = some (.slice an ln cn) := box_cells hb1 3
    have u4 : w1.cell? ⟨w.heap.size, 4, none⟩ = some (.slice ai li ci) := box_cells hb1 4
    clear hb1
    go_wp2_with fail
    clear u0 u1 u2 u3 u4
    go_fit hlen.out
    rintro e w2 ⟨rfl, hb2⟩
    clear hlen
    have hbx2 := hid_e (hbx.out.trans (hb2.mono hbx.out.size))
    have hbw2 := below_box hbx2.out
    clear hb2
    by_cases hl : L ≤ 65536
    · have e1 : Hid (pe = 0) := by have h1 := HPE'.out; rw [if_pos hl] at h1; exact h1
      obtain ⟨j, g1, g2, g3, g4, g5, g6⟩ := good_j t 0 hc.out (by rw [hL.out]; exact hl) hR.out
      have htl : Hid ((textT t).length = L) := by rw [Hid, g5, text_len j g4, ← g6, hL.out]
      have g0 : ¬ ((L : Int) > 65536) := by omega
      have u0 : w2.cell? ⟨w.heap.size, 0, none⟩ = some (.int .i64 k) := box_cells hbx2.out 0
      have u1 : w2.cell? ⟨w.heap.size, 1, none⟩ = some (.int .i64 x) := box_cells hbx2.out 1
      have u2 : w2.cell? ⟨w.heap.size, 2, none⟩ = some (.string s) := box_cells hbx2.out 2
      have u3 : w2.cell? ⟨w.heap.size, 3, none⟩ = some (.slice an ln cn) := box_cells hbx2.out 3
      have u4 : w2.cell? ⟨w.heap.size, 4, none⟩ = some (.slice ai li ci) := box_cells hbx2.out 4
      clear g1 g2 g3 g4 g5 g6
      go_wp2_with fail
      clear u0 u1 u2 u3 u4
      refine (Tryz.Builder_Grow_fresh_cap w2.heap.size w2.heap.size L _ (Nat.le_refl _) (heap_alloc_new w2 _) (by simp) (by omega)).mono ?_
      rintro e w3 ⟨rfl, ⟨hba, hb3⟩, -⟩
      have hb3' : Below w2.heap.size w2 w3 := ((Below.refl _ _).alloc (Nat.le_refl _) _).trans hb3
      have HBD : Hid (Bd w2.heap.size [] w3) := Or.inr (Lib.BuilderAtF.of hba)
      have hbx3 := hid_e (hbx2.out.trans (hb3'.mono hbx2.out.size))
      have hbw3 := below_box hbx3.out
      have u0 : w3.cell? ⟨w.heap.size, 0, none⟩ = some (.int .i64 k) := box_cells hbx3.out 0
      have u1 : w3.cell? ⟨w.heap.size, 1, none⟩ = some (.int .i64 x) := box_cells hbx3.out 1
      have u2 : w3.cell? ⟨w.heap.size, 2, none⟩ = some (.string s) := box_cells hbx3.out 2
      have u3 : w3.cell? ⟨w.heap.size, 3, none⟩ = some (.slice an ln cn) := box_cells hbx3.out 3
      have u4 : w3.cell? ⟨w.heap.size, 4, none⟩ = some (.slice ai li ci) := box_cells hbx3.out 4
      have hwr := hid_e (write_any t 0 _ w hc.out hV.out hR.out (by rw [hL.out]; exact hl) w3 w2.heap.size [] hbw2.size hbw3 h8 (hE.out.below hbw3 h8) HBD.out (by rw [htl.out]; simp; omega))
      rw [List.nil_append] at hwr
      clear hba hb3 hb3'
      go_wp2_with fail
      clear u0 u1 u2 u3 u4
      go_fit hwr.out
      rintro e w4 ⟨rfl, hb4, hst4⟩
      have HB4 : Hid (Bd w2.heap.size (textT t) w4) := hb4
      have hs2 := hbw2.size
      have hbw4 := hbw3.trans (hst4.below.mono hs2)
      clear hb4 hst4 hwr
      go_wp2_with fail
      refine (Tryz.Builder_String_any_k w2.heap.size w2.heap.size (textT t) w4 HB4.out (Nat.le_of_lt HB4.out.lt)).mono ?_
      rintro e w5 ⟨rfl, -, hb5, -⟩
      have hbw5 := hbw4.trans (hb5.mono (by omega))
      have hpsv : Hid (ps = ⟨(textT t).toArray⟩) := by have h1 := HPS.out; rw [if_pos e1.out] at h1; exact h1
      clear hb5
      go_wp2_with fail
      go_ret2
      exact ⟨by rw [hpsv.out, e1.out]; rfl, hbw5⟩
    · have e1 : Hid (pe = 1) := by have h1 := HPE'.out; rw [if_neg hl] at h1; exact h1
      have hpsv : Hid (ps = ⟨#[]⟩) := by have h1 := HPS.out; rw [if_neg (by rw [e1.out]; decide)] at h1; exact h1
      have g0 : (L : Int) > 65536 := by omega
      go_wp2_with fail
      go_ret2
      exact ⟨by rw [hpsv.out, e1.out]; rfl, hbw2⟩
  · have e1 : Hid (pe = c) := by have h1 := HPE.out; rw [if_neg h0] at h1; exact h1
    have hpsv : Hid (ps = ⟨#[]⟩) := by have h1 := HPS.out; rw [if_neg (by rw [e1.out]; exact h0)] at h1; exact h1
    have h0' : (c == 0) = false := by simpa using h0
    go_wp2_with fail
    go_ret2
    exact ⟨by rw [hpsv.out, e1.out]; rfl, hbw1⟩

theorem num_int (n : Int) (w : World) : Calls Tryz.prog 8 #[.int .i64 n] w fun e w' => e = .returned (.int .i64 n) ∧ w' = w := by
  go_enter Tryz.func8, Tryz.ntmps8
  go_wp2_with fail
  go_ret
  exact ⟨rfl, rfl⟩
/-- What was printed is read as the value. -/
theorem back_code (t : Tr) (w : World) (h : printE t = 0) (hR : RangeT t) (hE : Env w) (h8 : 8 ≤ w.heap.size) :
    Calls Tryz.prog 25 #[.string (printS t)] w fun e w' => (∃ k x s an ln cn ai li ci, e = .returned (.tuple #[.agg #[.int .i64 k, .int .i64 x, .string s, .slice an ln cn, .slice ai li ci], .int .i64 0, .int .i64 0]) ∧ VRep w' t (five k x s (.slice an ln cn) (.slice ai li ci))) ∧ Below w.heap.size w w' := by
  have hc : checkT 0 t = 0 := by
    unfold printE at h
    by_cases hc : checkT 0 t = 0
    · exact hc
    · rw [if_neg hc] at h; exact absurd h hc
  have hl : lenT t ≤ 65536 := by
    unfold printE at h
    rw [if_pos hc] at h
    by_cases hl : lenT t ≤ 65536
    · exact hl
    · rw [if_neg hl] at h; simp at h
  obtain ⟨j, g1, g2, g3, g4, g5, g6⟩ := good_j t 0 hc hl hR
  unfold printS
  rw [if_pos h, g5]
  have hsz : (⟨(textJ j).toArray⟩ : ByteArray).size ≤ 65536 := by
    show (textJ j).toArray.size ≤ _
    rw [List.size_toArray, text_len j g4, ← g6]
    exact hl
  refine (parse_any ⟨(textJ j).toArray⟩ (textR ⟨(textJ j).toArray⟩) (quoted_g _ hsz) w hE h8 hsz).mono ?_
  rintro e w' ⟨hp, hb⟩
  rw [whole_back j g2 g3 g4] at hp
  obtain ⟨k, x, s, an, ln, cn, ai, li, ci, he, hr⟩ := hp
  refine ⟨⟨k, x, s, an, ln, cn, ai, li, ci, he, ?_⟩, hb⟩
  rw [g1]
  exact rep_vrep j _ hr
end Go.Proofs.YtjhefkojfojjdaaGreatDoor.Tree
