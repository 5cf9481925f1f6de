import Derived.Test.YtgjemghfejaifaaGreatDoorTI
/-! schema: live. -/
namespace Go.Proofs.YtgjemghfejaifaaGreatDoor
open Go Go.RowKit

def numT (x : Int) : Tr := .node 3 x ⟨#[]⟩ [] []
def objT (s : ByteArray) (t : Tr) : Tr := .node 6 0 ⟨#[]⟩ [s] [t]
theorem vrep_num (w : World) (x : Int) : VRep w (numT x) (numU x).cs := by
  unfold numT VRep V5.cs numU
  exact ⟨_, none, 0, rfl, ⟨none, 0, rfl, ⟨Nat.le_refl _, by omega⟩, .inl rfl⟩, ⟨Nat.le_refl _, by omega⟩, .inl rfl⟩
theorem vrep_obj {w : World} {s : ByteArray} {t : Tr} {u : V5} {bn bi : Nat} (hn : w.cell? ⟨bn, 0, none⟩ = some (.string s)) (hF : FiveAt w bi u) (ht : VRep w t u.cs) : VRep w (objT s t) (objU bn bi).cs := by
  unfold objT VRep V5.cs objU
  refine ⟨_, _, 1, rfl, ⟨_, 1, rfl, ⟨Nat.le_refl _, by decide⟩, .inr ⟨bn, 0, rfl, lt_of_cell hn, fun j v hj => ?_⟩⟩, ⟨Nat.le_refl _, by decide⟩, .inr ⟨bi, 0, rfl, lt_of_cell (hF 0 _ rfl), ?_⟩⟩
  · have hl := (List.getElem?_eq_some_iff.1 hj).1
    have : j = 0 := by simp at hl; exact hl
    subst this
    have : s = v := by simpa using hj
    rw [← this]; exact hn
  · unfold VRepL
    exact ⟨u.cs, fun j v hj => by rw [Nat.zero_add]; exact hF j v hj, ht, by unfold VRepL; trivial⟩
/-- live's schema. -/
def liveT : Tr := objT wProperties (objT wN (objT wMinimum (numT 1)))
theorem live_small : SmallT liveT := by
  unfold liveT objT numT
  simp only [SmallT, SmallL]
  refine ⟨by decide, by decide, ?_, by decide, ⟨by decide, by decide, ?_, by decide, ⟨by decide, by decide, ?_, by decide, ⟨by decide, by decide, by simp, by decide, trivial⟩, trivial⟩, trivial⟩, trivial⟩
  all_goals
    intro n hn
    rw [List.mem_singleton.1 hn]
    decide
theorem live_z : parseZ liveT = 0 := by decide +kernel
theorem live_of {w w' : World} {p : Value} (h : SchemaAt w w' liveT p) : ∃ sb r0 p0 c0 mb r1 p1 c1 r2 p2 c2, p = .pointer (some ⟨sb, 0, none⟩) ∧ LiveAt w' sb r0 p0 c0 mb r1 p1 c1 r2 p2 c2 := by
  obtain ⟨sb, a, c, rfl, -, h1, h2⟩ := h
  rcases h2 with h2 | ⟨r0, p0, rfl, -, h2⟩
  · cases h2
  unfold liveT objT numT at h1 h2
  simp only [Tr.names, Tr.items] at h1 h2
  unfold RulesL at h2
  obtain ⟨a1, ⟨r, a2, a3⟩, -⟩ := h2
  unfold RuleR at a3
  obtain ⟨-, a4, -⟩ := a3
  obtain ⟨mb, a', c1, rfl, -, a5, a6⟩ := a4 (by decide +kernel)
  rcases a6 with a6 | ⟨r1, p1, rfl, -, a6⟩
  · cases a6
  unfold SchemasL at a6
  obtain ⟨⟨a', c2, a7, a8⟩, -⟩ := a6
  rcases a8 with a8 | ⟨r2, p2, rfl, -, a8⟩
  · cases a8
  unfold RulesL at a8
  obtain ⟨a9, ⟨r, a10, a11⟩, -⟩ := a8
  unfold RuleR at a11
  have a12 := a11.2.2 (by decide +kernel)
  subst a12
  exact ⟨sb, r0, p0, c, mb, r1, p1, c1, r2, p2, c2, rfl, ⟨cell_of h1 0, ⟨a1, a2, ⟨a5, a7, ⟨a9, a10⟩⟩⟩⟩⟩
/-- What the law's program leans on. -/
structure EnvL (w : World) : Prop where
  utf : Lib.Utf8Tabs 1 2 w
  tys : TysAt w
  big : 3 ≤ w.heap.size
theorem EnvL.keep {w w' : World} (h : EnvL w) (hb : Below w.heap.size w w') : EnvL w' :=
  ⟨utf_below h.utf hb h.big, h.tys.keep (hb.block _ (lt_of_cell (h.tys 0 (by decide)))), Nat.le_trans h.big hb.size⟩
set_option maxHeartbeats 8000000 in
set_option maxRecDepth 100000 in
theorem live_any (w : World) (hE : Hid (EnvL w)) : Calls Tryz.prog 5 #[] w fun e w' => e = .returned (.bool true) ∧ Below w.heap.size w w' := by
  have hnum := fun z W => hid_of (num_any z W)
  go_enter Tryz.func5, Tryz.ntmps5
  go_wp2_with fail
  refine (number_any 1 _).mono ?_
  rintro e W1 ⟨rfl, hb1⟩
  replace hb1 := hid_of hb1
  unfold V5.v numU
  go_wp2_with fail
  refine (object_any _ (numU 1) _).mono ?_
  rintro e W2 ⟨hb2, n2, i2, rfl, hn2, hi2⟩
  have hB2 := hid_of (hb1.out.trans (hb2.mono hb1.out.size))
  have hV2 := hid_of (vrep_obj hn2 hi2 (vrep_num _ 1))
  clear hb1 hb2 hn2 hi2
  unfold V5.v objU
  go_wp2_with fail
  refine (object_any _ (objU n2 i2) _).mono ?_
  rintro e W3 ⟨hb3, n3, i3, rfl, hn3, hi3⟩
  have hB3 := hid_of (hB2.out.trans (hb3.mono hB2.out.size))
  have hV3 := hid_of (vrep_obj hn3 hi3 (VRep.keep hb3 _ _ hV2.out))
  clear hb3 hn3 hi3 hV2 hB2
  unfold V5.v objU
  go_wp2_with fail
  refine (object_any _ (objU n3 i3) _).mono ?_
  rintro e W4 ⟨hb4, n4, i4, rfl, hn4, hi4⟩
  have hB4 := hid_of (hB3.out.trans (hb4.mono hB3.out.size))
  have hV4 : Hid (VRep W4 liveT (objU n4 i4).cs) := vrep_obj hn4 hi4 (VRep.keep hb4 _ _ hV3.out)
  clear hb4 hn4 hi4 hV3 hB3
  have hE4 := hid_of (hE.out.keep hB4.out)
  have hps := hid_of (parse_any liveT (objU n4 i4) W4 hV4 (hid_of live_small) (hid_of hE4.out.utf) (hid_of hE4.out.tys) hE4.out.big)
  unfold V5.v objU at hps ⊢
  go_wp2_with fail
  refine hps.out.mono ?_
  rintro e W5 hP
  obtain ⟨p, rfl, -, hp⟩ := hP.ret
  obtain ⟨sb, r0, p0, c0, mb, r1, p1, c1, r2, p2, c2, rfl, hL⟩ := live_of (hp live_z)
  have hB5 := hid_of (hB4.out.trans (hP.below.mono hB4.out.size))
  replace hL := hid_of hL
  rw [live_z]
  clear hP hp hps hV4 hE4 hB4
  go_wp2_with fail
  refine (hnum _ _).out.mono ?_
  rintro e Z ⟨rfl, hZ⟩
  obtain rfl : W5 = Z := hZ.symm
  clear hZ
  go_wp2_with fail
  refine (number_any 0 _).mono ?_
  rintro e Na ⟨rfl, hba⟩
  replace hba := hid_of hba
  unfold V5.v numU
  go_wp2_with fail
  refine (object_any _ (numU 0) _).mono ?_
  rintro e Da ⟨hca, bna, bia, rfl, hna, hia⟩
  have hBa := hid_of (hba.out.trans (hca.mono hba.out.size))
  have hDa : Hid (DocN Da bna bia 0) := ⟨hna, hia 0 _ rfl, hia 1 _ rfl, hia 2 _ rfl, hia 3 _ rfl, hia 4 _ rfl⟩
  clear hba hca hna hia
  have hft := hid_of (fault_live sb r0 p0 c0 mb r1 p1 c1 r2 p2 c2 bna bia Da (hL.out.keep hBa.out) hDa.out)
  unfold V5.v objU at hft ⊢
  go_wp2_with fail
  refine hft.out.mono ?_
  rintro e W6 ⟨hb6, g, cg, rfl, hcg, hg⟩
  have hB6 := hid_of (hBa.out.trans (hb6.mono hBa.out.size))
  have hL6 := hid_of (hL.out.keep hB6.out)
  replace hB5 := hid_of (hB5.out.trans (hB6.out.mono hB5.out.size))
  replace hg := hid_of hg
  clear hb6 hft hBa hDa hL hB6
  go_wp2_with fail
  refine (number_any 1 _).mono ?_
  rintro e Nb ⟨rfl, hbb⟩
  replace hbb := hid_of hbb
  unfold V5.v numU
  go_wp2_with fail
  refine (object_any _ (numU 1) _).mono ?_
  rintro e Db ⟨hcb, bnb, bib, rfl, hnb, hib⟩
  have hBb := hid_of (hbb.out.trans (hcb.mono hbb.out.size))
  have hDb : Hid (DocN Db bnb bib 1) := ⟨hnb, hib 0 _ rfl, hib 1 _ rfl, hib 2 _ rfl, hib 3 _ rfl, hib 4 _ rfl⟩
  clear hbb hcb hnb hib
  have hc1 := hid_of (check_live sb r0 p0 c0 mb r1 p1 c1 r2 p2 c2 bnb bib 1 Db (hL6.out.keep hBb.out) hDb.out)
  rw [if_pos (by decide)] at hc1
  unfold V5.v objU at hc1 ⊢
  go_wp2_with fail
  refine hc1.out.mono ?_
  rintro e W7 ⟨rfl, hb7⟩
  have hB7 := hid_of (hBb.out.trans (hb7.mono hBb.out.size))
  clear hb7 hc1 hBb hDb
  go_wp2_with fail
  refine (hnum _ _).out.mono ?_
  rintro e Z ⟨rfl, hZ⟩
  obtain rfl : W7 = Z := hZ.symm
  clear hZ
  go_wp2_with fail
  refine (number_any 0 _).mono ?_
  rintro e Nc ⟨rfl, hbc⟩
  replace hbc := hid_of hbc
  unfold V5.v numU
  go_wp2_with fail
  refine (object_any _ (numU 0) _).mono ?_
  rintro e Dc ⟨hcc, bnc, bic, rfl, hnc, hic⟩
  have hBc := hid_of (hbc.out.trans (hcc.mono hbc.out.size))
  have hDc : Hid (DocN Dc bnc bic 0) := ⟨hnc, hic 0 _ rfl, hic 1 _ rfl, hic 2 _ rfl, hic 3 _ rfl, hic 4 _ rfl⟩
  clear hbc hcc hnc hic
  have hB8 := hid_of (hB7.out.trans (hBc.out.mono hB7.out.size))
  have hc0 := hid_of (check_live sb r0 p0 c0 mb r1 p1 c1 r2 p2 c2 bnc bic 0 Dc (hL6.out.keep hB8.out) hDc.out)
  rw [if_neg (by decide)] at hc0
  unfold V5.v objU at hc0 ⊢
  go_wp2_with fail
  refine hc0.out.mono ?_
  rintro e W8 ⟨rfl, hb8⟩
  have hB9 := hid_of (hB8.out.trans (hb8.mono hB8.out.size))
  clear hb8 hc0 hBc hDc hB7 hB8
  go_wp2_with fail
  refine (hnum _ _).out.mono ?_
  rintro e Z ⟨rfl, hZ⟩
  obtain rfl : W8 = Z := hZ.symm
  clear hZ
  have gg := stay hB9.out hg.out
  have hBf := hid_of (hB5.out.trans (hB9.out.mono hB5.out.size))
  unfold wMinimum wN at *
  clear hL6 hB9 hB5 hg hnum hE
  have hcg' : ¬ (cg : Int) = 0 := by omega
  go_wp2_with fail
  go_ret
  exact ⟨rfl, hBf.out⟩
end Go.Proofs.YtgjemghfejaifaaGreatDoor
