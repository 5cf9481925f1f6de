import Derived.Test.YtgjemghfejaifaaGreatDoorUG
import Derived.Test.YtgjemghfejaifaaGreatDoorTJ
import Derived.Test.YtgjemghfejaifaaGreatDoorC2
import Derived.Test.YtgjemghfejaifaaGreatDoorRA3
/-! The law's helpers: large, Rules; the document's Read. -/
namespace Go.Proofs.YtgjemghfejaifaaGreatDoor
open Go Go.RowKit

/-- One of the two. -/
def SomeBool (e : Ending) : Prop := ∃ z, e = .returned (.bool z)
set_option maxHeartbeats 4000000 in
set_option maxRecDepth 100000 in
theorem large_any (a : Option Addr) (c : Nat) (its : List Tr) (w : World) (hI : Hid (RowT w a its)) (hl : its.length ≤ 1759218604390) :
    Calls Tryz.prog 4 #[.slice a its.length c] w fun e w' => SomeBool e ∧ Below w.heap.size w w' := by
  go_enter Tryz.func4, Tryz.ntmps4
  go_wp2_with fail
  go_loopw [3, 4] (fun n i wr => ∃ (q : Nat) (z : Int), q ≤ its.length ∧ i = .int .i64 q ∧ n = .int .i64 z ∧ Hid (Below w.heap.size w wr)) (fun _ i _ => its.length - (intOf i).toNat)
  case atStart => exact ⟨0, 0, Nat.zero_le _, rfl, rfl, Below.refl _ _⟩
  case round =>
    obtain ⟨q, z, hq, rfl, rfl, hB⟩ := hrel
    have hqb : (q : Int) ≤ 1759218604390 := by omega
    by_cases hlt : q < its.length
    · obtain ⟨t, ht⟩ : ∃ t, Hid (its[q]? = some t) := ⟨_, hid_e (List.getElem?_eq_getElem hlt)⟩
      obtain ⟨g, o, hai, hg, hV⟩ := hI.out.resolve_left (by intro e; subst e; simp at hlt)
      obtain ⟨cs, hCs, hr⟩ := VRepL.at its o q t hV ht.out
      obtain ⟨v, rfl⟩ := vrep_v5 hr
      have hcall := hid_of (parts_any t v.cs 3000 wr (VRep.keep hB.out _ _ hr))
      unfold V5.cs five at hCs hcall
      have z0 := stay hB.out (hCs 0 _ rfl)
      have z1 := stay hB.out (hCs 1 _ rfl)
      have z2 := stay hB.out (hCs 2 _ rfl)
      have z3 := stay hB.out (hCs 3 _ rfl)
      have z4 := stay hB.out (hCs 4 _ rfl)
      simp only [Nat.add_zero] at z0
      have hi : (q : Int) < (its.length : Int) := by omega
      rw [hai]
      clear hV hCs hr hg hai
      go_wp2_with fail
      refine hcall.out.mono ?_
      rintro e W ⟨⟨n, rfl⟩, hb⟩
      have hB2 := hid_of (hB.out.trans (hb.mono hB.out.size))
      clear hb z0 z1 z2 z3 z4 hcall
      go_wp2_with fail
      go_roundw
      case rel => exact ⟨q + 1, _, by omega, by go_num, rfl, hB2⟩
      case measure => simp [intOf]; omega
    · have hi : ¬ (q : Int) < (its.length : Int) := by omega
      clear hlt
      go_wp2_with fail
      go_ret
      exact ⟨show SomeBool _ from ⟨_, rfl⟩, hB.out⟩
set_option maxHeartbeats 1000000 in
set_option maxRecDepth 100000 in
theorem rules_some (b : Nat) (a : Option Addr) (l c : Nat) (n : Int) (w : World) (h : w.heap[b]? = some (.cells #[.slice a l c, .int .i64 n] 54 (0, 0))) : Calls Tryz.prog 11 #[.pointer (some ⟨b, 0, none⟩)] w fun e w' => e = .returned (.int .i64 n) ∧ w' = w := by
  have c0 : w.cell? ⟨b, 0, none⟩ = some (.slice a l c) := cell_of h 0
  have c1 : w.cell? ⟨b, 1, none⟩ = some (.int .i64 n) := cell_of h 1
  clear h
  go_enter Tryz.func11, Tryz.ntmps11
  go_wp2_with fail
  go_ret
  exact ⟨rfl, rfl⟩
/-- How many rules the document tells of. -/
def rulesZ (t : Tr) : Nat := if checkT 0 t = 0 then (schemaS 0 0 t).1 else 0
set_option maxHeartbeats 4000000 in
set_option maxRecDepth 100000 in
theorem read_any (t : Tr) (u : V5) (w : World) (hV : Hid (VRep w t u.cs)) (hS : Hid (SmallT t)) (hR : Hid (RangeT t)) :
    Calls Tryz.prog 8 #[u.v] w fun e w' => e = .returned (.tuple #[.int .i64 (parseZ t), .int .i64 ((rulesZ t : Nat) : Int)]) ∧ Below w.heap.size w w' := by
  have hB0 := hid_of ((Below.refl _ w).alloc (Nat.le_refl _) (u.obj 25))
  obtain ⟨x0, x1, x2, x3, x4, -⟩ := row_cells (heap_alloc_new w (u.obj 25))
  have hck := hid_of (Chk.ref_check t u.k u.x u.s u.an u.ln u.cn u.ai u.li u.ci (w.alloc (u.obj 25)) (VRep.keep hB0.out _ _ hV.out) hS.out)
  obtain ⟨c, hc⟩ : ∃ c, Hid (checkT 0 t = c) := ⟨_, rfl⟩
  rw [hc.out] at hck
  unfold V5.obj at *
  unfold V5.v
  go_enter Tryz.func8, Tryz.ntmps8
  go_wp2_with fail
  generalize w.alloc (.cells #[.int .i64 u.k, .int .i64 u.x, .string u.s, .slice u.an u.ln u.cn, .slice u.ai u.li u.ci] 25) = X0 at *
  refine hck.out.mono ?_
  rintro e W1 ⟨rfl, hb1⟩
  have y0 := stay hb1 x0; have y1 := stay hb1 x1; have y2 := stay hb1 x2; have y3 := stay hb1 x3; have y4 := stay hb1 x4
  have hB1 := hid_of (hB0.out.trans (hb1.mono hB0.out.size))
  clear x0 x1 x2 x3 x4 hck hb1
  by_cases h0 : c = 0
  · subst h0
    have hNm := hid_of (names_of 0 t hc.out)
    have hpz : Hid (parseZ t = (schemaS 0 0 t).2) := by rw [Hid]; unfold parseZ; rw [if_pos hc.out]
    have hrz : Hid (rulesZ t = (schemaS 0 0 t).1) := by rw [Hid]; unfold rulesZ; rw [if_pos hc.out]
    have hO2 := hid_of ((Below.refl W1.heap.size W1).alloc (Nat.le_refl _) (.cells #[.int .i64 0, .int .i64 0] 58))
    have q0 := stay hO2.out y0; have q1 := stay hO2.out y1; have q2 := stay hO2.out y2; have q3 := stay hO2.out y3; have q4 := stay hO2.out y4
    have hB2 := hid_of (hB1.out.trans (hO2.out.mono hB1.out.size))
    have hcall := hid_of (rdOk w t 0 0 W1.heap.size u (W1.alloc (.cells #[.int .i64 0, .int .i64 0] 58)) (by decide) (by decide) hV.out hS.out hNm.out hR.out ⟨hB1.out.size, hB2.out⟩ (heap_alloc_new W1 _))
    unfold V5.v at hcall
    go_wp2_with fail
    refine hcall.out.mono ?_
    rintro e W3 ⟨rfl, hc3, hF3, -⟩
    have hB3 : Hid (Below w.heap.size w W3) := hB2.out.trans (hF3.below hB2.out.size (fun i e => by subst e; exact hB1.out.size))
    obtain ⟨c0, c1, -, -⟩ := hc3.cells
    generalize schemaS 0 0 t = R at c0 c1 hpz hrz
    clear hc3 hcall hF3 y0 y1 y2 y3 y4 q0 q1 q2 q3 q4
    go_upto_region 6 with fail
    go_quiet (fail)
    go_wp2_with fail
    go_ret2
    exact ⟨by rw [hpz.out, hrz.out]; rfl, below_drewN hB3.out _⟩
  · have hb : (c != 0) = true := by simp [h0]
    have hpz : Hid (parseZ t = c) := by rw [Hid]; unfold parseZ; rw [hc.out, if_neg h0]
    have hrz : Hid (rulesZ t = 0) := by rw [Hid]; unfold rulesZ; rw [hc.out, if_neg h0]
    go_wp2_with fail
    go_ret2
    exact ⟨by rw [hpz.out, hrz.out]; rfl, hB1.out⟩
end Go.Proofs.YtgjemghfejaifaaGreatDoor
/-! The walk of SchemaParses. -/
namespace Go.Proofs.YtgjemghfejaifaaGreatDoor
open Go Go.RowKit

theorem copy_v5 (t : Tr) (u : V5) (w : World) (hV : VRep w t u.cs) (hS : SmallT t) : Calls Tryz.prog 6 #[u.v] w fun e w' => ∃ v : V5, e = .returned v.v ∧ VRep w' t v.cs ∧ Below w.heap.size w w' :=
  (copy_any t u.cs w hV hS).mono fun _ _ ⟨k, x, s, an, ln, cn, ai, li, ci, he, hs, hb⟩ => ⟨⟨k, x, s, an, ln, cn, ai, li, ci⟩, he, hs.rep, hb⟩
theorem same_v5 (t : Tr) (u v : V5) (w : World) (hV : VRep w t u.cs) (hV' : VRep w t v.cs) : Calls Tryz.prog 10 #[u.v, v.v] w fun e w' => e = .returned (.bool true) ∧ Below w.heap.size w w' := equal_same t u.cs v.cs w hV hV'
set_option maxHeartbeats 8000000 in
set_option maxRecDepth 100000 in
theorem parses_true (t : Tr) (u : V5) (w : World) (hV : Hid (VRep w t u.cs)) (hS : Hid (SmallT t)) (hR : Hid (RangeT t)) (hE : Hid (EnvL w)) :
    Calls Tryz.prog 3 #[u.v] w fun e w' => e = .returned (.bool true) ∧ Below w.heap.size w w' := by
  have hnum := fun z W => hid_of (num_any z W)
  have hB0 := hid_of ((Below.refl _ w).alloc (Nat.le_refl _) (u.obj 25))
  have hB1 := hid_of (hB0.out.alloc hB0.out.size (u.obj 25))
  have hrow := hid_of (row_one (v := u) (VRep.keep hB1.out _ _ hV.out) (new2 w (u.obj 25) (u.obj 25)))
  have hlg := fun c => hid_of (large_any _ c [t] _ hrow (by simp))
  have n1 := hid_of (new1 w (u.obj 25) (u.obj 25))
  rw [show [t].length = 1 from rfl] at hlg
  obtain ⟨x0, x1, x2, x3, x4, -⟩ := row_cells (heap_alloc_new w (u.obj 25))
  have hsz : Hid ((w.alloc (u.obj 25)).heap.size = w.heap.size + 1) := World.size_alloc _ _
  unfold V5.obj at *
  unfold V5.v
  go_enter Tryz.func3, Tryz.ntmps3
  go_wp2_with fail
  refine (hlg _).out.mono ?_
  rintro e W1 ⟨⟨z, rfl⟩, hb⟩
  have hB := hid_of (hB1.out.trans (hb.mono hB1.out.size))
  replace n1 := hid_of ((hb.block _ (Array.getElem?_eq_some_iff.1 n1.out).1).trans n1.out)
  clear x0 x1 x2 x3 x4 hlg hb hB1 hrow hsz
  cases z
  rotate_left
  · go_wp2_with fail
    refine (live_any W1 (hid_of (hE.out.keep hB.out))).mono ?_
    rintro e W2 ⟨rfl, hb⟩
    have hB2 := hid_of (hB.out.trans (hb.mono hB.out.size))
    clear hb
    go_wp2_with fail
    go_ret
    exact ⟨rfl, hB2.out⟩
  obtain ⟨y0, y1, y2, y3, y4, -⟩ := row_cells n1.out
  have hcp := hid_of (copy_v5 t u W1 (VRep.keep hB.out _ _ hV.out) hS.out)
  unfold V5.v at hcp
  go_wp2_with fail
  refine hcp.out.mono ?_
  rintro e W2 ⟨v, rfl, hvc, hbw⟩
  have hO := hid_of ((Below.refl W2.heap.size W2).alloc (Nat.le_refl _) (v.obj 25))
  have m0 := hid_of (heap_alloc_new W2 (v.obj 25))
  have hb3 := hbw.trans (hO.out.mono hbw.size)
  have hB3 := hid_of (hB.out.trans (hb3.mono hB.out.size))
  replace n1 := hid_of ((hb3.block _ (Array.getElem?_eq_some_iff.1 n1.out).1).trans n1.out)
  have hvc3 := hid_of (VRep.keep hO.out _ _ hvc)
  clear hvc hbw hb3 hcp y0 y1 y2 y3 y4 hB hO
  unfold V5.obj at *
  go_upto_region 4 with fail
  generalize W2.alloc (.cells #[.int .i64 v.k, .int .i64 v.x, .string v.s, .slice v.an v.ln v.cn, .slice v.ai v.li v.ci] 25) = W3 at *
  obtain ⟨gb, hgb⟩ : ∃ g, W2.heap.size = g := ⟨_, rfl⟩
  rw [hgb] at m0 ⊢
  clear hgb
  have hE3 := hid_of (hE.out.keep hB3.out)
  have hps := hid_of (parse_any t v W3 hvc3 hS (hid_of hE3.out.utf) (hid_of hE3.out.tys) hE3.out.big)
  obtain ⟨y0, y1, y2, y3, y4, -⟩ := row_cells m0.out
  unfold V5.v at hps
  go_wp2_with fail
  refine hps.out.mono ?_
  rintro e W4 hP
  obtain ⟨p, rfl, hp0, hp1⟩ := hP.ret
  have hB4 := hid_of (hB3.out.trans (hP.below.mono hB3.out.size))
  replace n1 := hid_of ((hP.below.block _ (Array.getElem?_eq_some_iff.1 n1.out).1).trans n1.out)
  replace m0 := hid_of ((hP.below.block _ (Array.getElem?_eq_some_iff.1 m0.out).1).trans m0.out)
  have hvc4 := hid_of (VRep.keep hP.below _ _ hvc3.out)
  replace hp0 := hid_of hp0; replace hp1 := hid_of hp1
  clear hP hps hE3 hvc3 hB3 y0 y1 y2 y3 y4
  have hrd := hid_of (read_any t u W4 (hid_of (VRep.keep hB4.out _ _ hV.out)) hS hR)
  obtain ⟨y0, y1, y2, y3, y4, -⟩ := row_cells n1.out
  unfold V5.v at hrd
  go_upto_region 5 with fail
  go_wp2_with fail
  refine hrd.out.mono ?_
  rintro e W5 ⟨rfl, hb5⟩
  have hB5 := hid_of (hB4.out.trans (hb5.mono hB4.out.size))
  replace n1 := hid_of ((hb5.block _ (Array.getElem?_eq_some_iff.1 n1.out).1).trans n1.out)
  replace m0 := hid_of ((hb5.block _ (Array.getElem?_eq_some_iff.1 m0.out).1).trans m0.out)
  have hvc5 := hid_of (VRep.keep hb5 _ _ hvc4.out)
  have hp2 : parseZ t = 0 → ∃ b a l c, p = .pointer (some ⟨b, 0, none⟩) ∧ Hid (∀ W, Below W5.heap.size W5 W → W.heap[b]? = some (.cells #[.slice a l c, .int .i64 ((rulesZ t : Nat) : Int)] 54 (0, 0))) := fun h => by
    obtain ⟨b, a, c, h1, h2, h3, -⟩ := hp1.out h
    have hr : rulesZ t = (schemaS 0 0 t).1 := by
      unfold parseZ at h
      unfold rulesZ
      by_cases hc : checkT 0 t = 0
      · rw [if_pos hc]
      · rw [if_neg hc] at h; exact absurd h hc
    refine ⟨b, a, t.items.length, c, h1, fun W hW => ?_⟩
    have hl := (Array.getElem?_eq_some_iff.1 h3).1
    rw [hr]
    exact (hW.block _ (Nat.lt_of_lt_of_le hl hb5.size)).trans ((hb5.block _ hl).trans h3)
  replace hp2 := hid_of hp2
  clear hb5 hrd hvc4 hB4 y0 y1 y2 y3 y4 hp1
  generalize parseZ t = z at hp0 hp2 ⊢
  generalize rulesZ t = rz at hp2 ⊢
  have hzz : (z != z) = false := by simp
  have heq := hid_of (same_v5 t v u W5 hvc5.out (VRep.keep hB5.out _ _ hV.out))
  have hlv := fun W (hW : Below W5.heap.size W5 W) => hid_of (live_any W (hid_of (hE.out.keep (hB5.out.trans (hW.mono hB5.out.size)))))
  unfold V5.v at heq
  obtain ⟨y0, y1, y2, y3, y4, -⟩ := row_cells n1.out
  obtain ⟨q0, q1, q2, q3, q4, -⟩ := row_cells m0.out
  by_cases hz : z = 0
  · obtain ⟨b, a, l, c, rfl, hS5⟩ := hp2.out hz
    have hz0 : (z != 0) = false := by simp [hz]
    clear hz hp0 hp2
    go_wp2_with fail
    refine (hnum _ _).out.mono ?_
    rintro e Z ⟨rfl, hZ⟩
    obtain rfl : W5 = Z := hZ.symm
    clear hZ
    go_wp2_with fail
    refine heq.out.mono ?_
    rintro e W6 ⟨rfl, hb6⟩
    have hlv6 := hlv W6 hb6
    clear y0 y1 y2 y3 y4 q0 q1 q2 q3 q4
    go_wp2_with fail
    refine hlv6.out.mono ?_
    rintro e W7 ⟨rfl, hb7⟩
    have hb57 := hb6.trans (hb7.mono hb6.size)
    have hB7 := hid_of (hB5.out.trans (hb57.mono hB5.out.size))
    have hru := hid_of (rules_some b a l c (rz : Int) W7 (hS5.out W7 hb57))
    clear hb6 hb7 hb57 hlv6 hlv heq
    go_wp2_with fail
    refine hru.out.mono ?_
    rintro e Z ⟨rfl, hZ⟩
    obtain rfl : W7 = Z := hZ.symm
    clear hZ hru
    go_wp2_with fail
    go_ret
    exact ⟨ret_bool (by simp), hB7.out⟩
  · have hz0 : (z != 0) = true := by simp [hz]
    have hpn := hp0.out hz
    subst hpn
    clear hz hp0 hp2
    go_wp2_with fail
    refine (hnum _ _).out.mono ?_
    rintro e Z ⟨rfl, hZ⟩
    obtain rfl : W5 = Z := hZ.symm
    clear hZ
    go_wp2_with fail
    refine heq.out.mono ?_
    rintro e W6 ⟨rfl, hb6⟩
    have hlv6 := hlv W6 hb6
    clear y0 y1 y2 y3 y4 q0 q1 q2 q3 q4
    go_wp2_with fail
    refine hlv6.out.mono ?_
    rintro e W7 ⟨rfl, hb7⟩
    have hb57 := hb6.trans (hb7.mono hb6.size)
    have hB7 := hid_of (hB5.out.trans (hb57.mono hB5.out.size))
    clear hb6 hb7 hb57 hlv6 hlv heq
    go_wp2_with fail
    go_ret
    exact ⟨ret_bool (by simp), hB7.out⟩
end Go.Proofs.YtgjemghfejaifaaGreatDoor
