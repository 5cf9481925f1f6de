import Derived.Test.YthgnkhpomhcdkaaGreatDoorOA
import Derived.Test.YthgnkhpomhcdkaaGreatDoorOY
import Derived.Deep.AppendSrc
import Derived.Deep.MidRow
/-! update: laid, where Set finds its way. -/
namespace Go.Proofs.YthgnkhpomhcdkaaGreatDoor
open Go Go.RowKit Dp

/-- It answers a Value that reads as R, in memory of S and new memory, and no error. -/
def Laid (S : Nat → Prop) (w : World) (R : Tr) (e : Ending) (w' : World) : Prop := Below w.heap.size w w' ∧ ∃ u : V5, e = .returned (.tuple #[u.v, .nilIface]) ∧ Seen w' (fun k => S k ∨ w.heap.size ≤ k) R u.cs
theorem v5_of {w : World} {R : Tr} {cs : List Value} (h : VRep w R cs) : ∃ u : V5, u.cs = cs := by
  obtain ⟨k, x, s, an, ln, cn, ai, li, ci, rfl⟩ := vrep_five h
  exact ⟨⟨k, x, s, an, ln, cn, ai, li, ci⟩, rfl⟩
theorem v5_arr (u : V5) : Value.agg u.cs.toArray = u.v := rfl
theorem put5_def (w : World) (g : Nat) (a0 a1 a2 a3 a4 : Value) : put5 w g a0 a1 a2 a3 a4 = ((((w.setCell ⟨g, 0, none⟩ a0).setCell ⟨g, 1, none⟩ a1).setCell ⟨g, 2, none⟩ a2).setCell ⟨g, 3, none⟩ a3).setCell ⟨g, 4, none⟩ a4 := rfl
set_option maxHeartbeats 4000000 in
set_option maxRecDepth 100000 in
theorem ulaid_any (t X : Tr) (u x : V5) (pv : Value) (l : List ByteArray) (w : World) (S0 S : Nat → Prop) (hSw : ∀ k, S k → k < w.heap.size) (hS0 : ∀ k, S0 k → S k) (hV : Seen w S0 t u.cs) (hX : Seen w S X x.cs) (hP : Reads w pv l) (hl : l.length ≤ 1000000) (hS : Hid (Sized l)) (hb : ∀ st ∈ (downT t l).2, (st.1.items.length + 1) * 80 ≤ 140737488355328) (hd : (downT t l).1 = 0) :
    Calls Tryz.prog 72 #[u.v, pv, x.v] w (Laid S w (setT t l X)) := by
  have hB3 : ∀ o1 o2 o3, Below w.heap.size w (((w.alloc o1).alloc o2).alloc o3) := fun o1 o2 o3 => (((Below.refl _ w).alloc (Nat.le_refl _) o1).alloc (by simp) o2).alloc (by simp; omega) o3
  have hset := fun o1 o2 o3 => hid_of (set_seen t X u.cs x.cs pv l (((w.alloc o1).alloc o2).alloc o3) S0 S (fun k hk => by have := hSw k hk; simp only [World.size_alloc]; omega) hS0 (hV.keep (hB3 o1 o2 o3)) (hX.keep (hB3 o1 o2 o3)) (hP.keep (hB3 o1 o2 o3)) hl hS hb)
  rw [hd] at hset
  have X0 : ∀ o2 o3, (((w.alloc (u.obj 28)).alloc o2).alloc o3).heap[w.heap.size]? = some (u.obj 28) := fun o2 o3 => al_lt (by simp; omega) (al_lt (by simp) (al_eq rfl))
  have X2 : ∀ o1 o2 o3, (((w.alloc o1).alloc o2).alloc o3).heap[w.heap.size + 1 + 1]? = some o3 := fun o1 o2 o3 => al_eq (by simp)
  clear hV hX hP hS hb hd hl hS0
  unfold V5.v V5.obj at *
  go_enter Tryz.func72, Tryz.ntmps72
  go_wp2_with fail
  refine (hset _ _ _).out.mono ?_
  rintro e w1 ⟨hb1, ⟨h0, -⟩ | ⟨-, cs, rfl, hR⟩⟩
  · exact absurd rfl h0
  obtain ⟨y, rfl⟩ := v5_of hR.rep
  have C0 := block_keep (X0 _ _) hb1
  have C2 := block_keep (X2 _ _ _) hb1
  have HB := hid_of ((hB3 _ _ _).trans (hb1.mono (by simp; omega)))
  clear hb1 hset X0 X2 hB3
  replace hR := hid_of hR
  obtain ⟨k, xx, s, an, ln, cn, ai, li, ci⟩ := y
  unfold V5.cs five at hR ⊢
  simp only at hR ⊢
  obtain ⟨z0, z1, z2, z3, z4, zf⟩ := row_cells C0
  have zf0 := zf 0; have zf1 := zf 1; have zf2 := zf 2; have zf3 := zf 3; have zf4 := zf 4
  clear zf
  go_wp2_with fail
  rw [← put5_def]
  have R0 := put5_at C0 (.int .i64 k) (.int .i64 xx) (.string s) (.slice an ln cn) (.slice ai li ci)
  have R2 := (put5_far (w := w1) (g := w.heap.size) (.int .i64 k) (.int .i64 xx) (.string s) (.slice an ln cn) (.slice ai li ci) (show w.heap.size + 1 + 1 ≠ w.heap.size by omega)).trans C2
  have HB2 := hid_of (HB.out.trans (put5_below (w := w1) (g := w.heap.size) (Nat.le_refl _) (.int .i64 k) (.int .i64 xx) (.string s) (.slice an ln cn) (.slice ai li ci)))
  have HR2 := hid_of (hR.out.agree ⟨Nat.le_of_eq (put5_size _ _ _ _ _ _ _).symm, fun p u hp hc => (World.cell?_of_block (w := w1) (put5_far (.int .i64 k) (.int .i64 xx) (.string s) (.slice an ln cn) (.slice ai li ci) (show p.block ≠ w.heap.size from fun e => by
    have hp' : S p.block ∨ _ ≤ p.block := hp
    simp only [World.size_alloc] at hp'
    have hp2 := hSw p.block
    rcases hp' with h | h
    · have := hp2 h; omega
    · omega))).trans hc⟩)
  clear z0 z1 z2 z3 z4 zf0 zf1 zf2 zf3 zf4 C0 C2 hR
  obtain ⟨r0, r1, r2, r3, r4, -⟩ := row_cells R0
  obtain ⟨z0, z1, z2, z3, z4, zf⟩ := row_cells R2
  have zf0 := zf 0; have zf1 := zf 1; have zf2 := zf 2; have zf3 := zf 3; have zf4 := zf 4
  clear zf
  replace R0 := hid_of R0; replace R2 := hid_of R2
  generalize put5 w1 w.heap.size (.int .i64 k) (.int .i64 xx) (.string s) (.slice an ln cn) (.slice ai li ci) = w2 at *
  go_region_with (go_at_call 62; refine (failed_ok _).mono ?_; rintro e X1 ⟨rfl, rfl⟩)
  all_goals
    go_wp2_with fail
    rw [← put5_def]
    have hr := put5_at R2.out (.int .i64 k) (.int .i64 xx) (.string s) (.slice an ln cn) (.slice ai li ci)
    have hB4 := hid_of (HB2.out.trans (put5_below (w := w2) (g := w.heap.size + 1 + 1) (by omega) (.int .i64 k) (.int .i64 xx) (.string s) (.slice an ln cn) (.slice ai li ci)))
    have hfin := hid_of (Seen.wide (S' := fun k => S k ∨ w.heap.size ≤ k) (HR2.out.agree (W' := put5 w2 (w.heap.size + 1 + 1) (.int .i64 k) (.int .i64 xx) (.string s) (.slice an ln cn) (.slice ai li ci)) ⟨Nat.le_of_eq (put5_size _ _ _ _ _ _ _).symm, fun p u hp hc => (World.cell?_of_block (w := w2) (put5_far (.int .i64 k) (.int .i64 xx) (.string s) (.slice an ln cn) (.slice ai li ci) (show p.block ≠ w.heap.size + 1 + 1 from fun e => by
      have hp' : S p.block ∨ _ ≤ p.block := hp
      simp only [World.size_alloc] at hp'
      have hp2 := hSw p.block
      rcases hp' with h | h
      · have := hp2 h; omega
      · omega))).trans hc⟩) (fun k hk => by
      rcases hk with h | h
      · exact .inl h
      · simp only [World.size_alloc] at h; exact .inr (by omega)))
    clear R2 HR2 HB2 HB z0 z1 z2 z3 z4 zf0 zf1 zf2 zf3 zf4 r0 r1 r2 r3 r4 R0
    generalize put5 w2 (w.heap.size + 1 + 1) (.int .i64 k) (.int .i64 xx) (.string s) (.slice an ln cn) (.slice ai li ci) = w4 at hr hB4 hfin ⊢
    have q0 : w4.drew.cell? ⟨w.heap.size + 1 + 1, 0, none⟩ = some (.int .i64 k) := cell_of (show w4.drew.heap[w.heap.size + 1 + 1]? = _ from hr) 0
    have q1 : w4.drew.cell? ⟨w.heap.size + 1 + 1, 1, none⟩ = some (.int .i64 xx) := cell_of (show w4.drew.heap[w.heap.size + 1 + 1]? = _ from hr) 1
    have q2 : w4.drew.cell? ⟨w.heap.size + 1 + 1, 2, none⟩ = some (.string s) := cell_of (show w4.drew.heap[w.heap.size + 1 + 1]? = _ from hr) 2
    have q3 : w4.drew.cell? ⟨w.heap.size + 1 + 1, 3, none⟩ = some (.slice an ln cn) := cell_of (show w4.drew.heap[w.heap.size + 1 + 1]? = _ from hr) 3
    have q4 : w4.drew.cell? ⟨w.heap.size + 1 + 1, 4, none⟩ = some (.slice ai li ci) := cell_of (show w4.drew.heap[w.heap.size + 1 + 1]? = _ from hr) 4
    refine bodyPost_ret (v := .tuple #[.agg #[.int .i64 k, .int .i64 xx, .string s, .slice an ln cn, .slice ai li ci], .nilIface]) (by simp [Act.put, results, Tryz.results72, go_sem, q0, q1, q2, q3, q4]) rfl ?_
    exact ⟨below_drew hB4.out, ⟨k, xx, s, an, ln, cn, ai, li, ci⟩, rfl, hfin.out.keep (below_drew (Below.refl _ w4))⟩
end Go.Proofs.YthgnkhpomhcdkaaGreatDoor
/-! update: the place that a path of one segment means. -/
namespace Go.Proofs.YthgnkhpomhcdkaaGreatDoor
open Go Go.RowKit Dp

theorem A22 : (Tryz.prog.info? 25).map (fun i => (i.zero, i.size, i.bytes)) = some (some (.slice none 0 0), 1, 24) := by kernel_rfl
theorem clip_nil (w : World) : Calls Tryz.prog 251 #[.slice none 0 0] w fun e w' => e = .returned (.slice none 0 0) ∧ w' = w := by
  go_enter Tryz.func251, Tryz.ntmps251
  go_wp2_with fail
  go_ret
  exact ⟨rfl, rfl⟩
set_option maxHeartbeats 1000000 in
theorem behindPlace_nil (s : ByteArray) (w : World) : Calls Tryz.prog 202 #[.slice none 0 0, .string s] w fun e w' => Below w.heap.size w w' ∧ ∃ g c, e = .returned (.slice (some ⟨g, 0, none⟩) 1 c) ∧ 1 ≤ c ∧ c ≤ 9223372036854775807 ∧ w'.cell? ⟨g, 0, none⟩ = some (.string s) := by
  obtain ⟨i9, hi9, hz0, hz1, hz2⟩ := info_parts A9
  go_enter Tryz.func202, Tryz.ntmps202
  go_wp2_with fail
  refine (clip_nil _).mono ?_
  rintro e w1 ⟨rfl, rfl⟩
  go_wp2_with (at_builtin; refine wpList_append_lies _ rfl _ _ 25 rfl w1.heap.size 9 i9 _ 1 16 Tryz.underlying25 hi9 hz0 hz1 hz2 rfl (by decide) _ 0 [] rfl (World.ownsRow_nil _ _ _ _) _ 1 1 [.string s] rfl rfl (World.news_of_block (heap_alloc_new w1 _)) (one_string s) (by decide) (by unfold maxLen; omega) (by omega) (by simp only [World.size_alloc]; omega) _ rfl ?_; intro g cap w2 hown hgrow hat hlt)
  go_ret
  have hb : Below w1.heap.size w1 w2 := ((Below.refl _ w1).alloc (Nat.le_refl _) _).trans (grown_below hgrow (by simp only [World.size_alloc]; omega) (fun k hk => by cases hk))
  have hcell := hown.cellAt 0 (by decide)
  rcases hown.2 with ⟨h, -⟩ | ⟨g', cap', cur, hv, h1, h2, h3, h4, h5, h6⟩
  · cases h
  · simp only [Value.slice.injEq] at hv
    obtain ⟨hv1, -, hv3⟩ := hv
    subst hv3
    exact ⟨hb, g, cap, rfl, by omega, Nat.le_trans h4 (by decide), by simpa using hcell⟩
set_option maxHeartbeats 2000000 in
set_option maxRecDepth 100000 in
theorem onward_one (mv : Value) (g c : Nat) (s : ByteArray) (h1 : 1 ≤ s.size) (h2 : Dp.byteAt s 0 ≠ 36) (u : V5) (w : World) (hc : w.cell? ⟨g, 0, none⟩ = some (.slice none 0 0)) :
    Calls Tryz.prog 164 #[mv, .slice (some ⟨g, 0, none⟩) 1 c, .string s, u.v] w fun e w' => Below w.heap.size w w' ∧ ∃ gp cp gs cs, e = .returned (.tuple #[.slice (some ⟨gp, 0, none⟩) 1 cp, .nilIface]) ∧ w'.cell? ⟨gp, 0, none⟩ = some (.slice (some ⟨gs, 0, none⟩) 1 cs) ∧ (1 ≤ cs ∧ cs ≤ 9223372036854775807) ∧ w'.cell? ⟨gs, 0, none⟩ = some (.string s) := by
  obtain ⟨i22, hi22, hz0, hz1, hz2⟩ := info_parts A22
  have hm := means_not s h1 h2
  have hc1 := cell_alloc' hc (u.obj 28)
  have hB1 := hid_of ((Below.refl w.heap.size w).alloc (Nat.le_refl _) (u.obj 28))
  clear h1 h2 hc
  unfold V5.v V5.obj at *
  go_enter Tryz.func164, Tryz.ntmps164
  go_wp2_with fail
  generalize w.alloc (.cells #[.int .i64 u.k, .int .i64 u.x, .string u.s, .slice u.an u.ln u.cn, .slice u.ai u.li u.ci] 28) = w0 at *
  refine wp_loop_rounds 2 ?_
  rw [rounds_succ]
  go_wp2_with fail
  refine (hm _).mono ?_
  rintro e w1 ⟨rfl, rfl⟩
  go_wp2_with fail
  refine (behindPlace_nil s _).mono ?_
  rintro e w2 ⟨hb2, gs, cs, rfl, hcs1, hcs2, hcs⟩
  have HB2 := hid_of (hB1.out.trans (hb2.mono hB1.out.size))
  replace hcs := hid_of hcs
  clear hb2 hB1 hc1 hm
  go_wp2_with (at_builtin; refine wpList_append_lies _ rfl _ _ 145 rfl w2.heap.size 25 i22 _ 1 24 Tryz.underlying145 hi22 hz0 hz1 hz2 rfl (by decide) _ 0 [] rfl (World.ownsRow_nil _ _ _ _) _ 1 1 [.slice (some ⟨gs, 0, none⟩) 1 cs] rfl rfl (World.news_of_block (heap_alloc_new w2 _)) (by intro x hx; rw [List.mem_singleton.1 hx]; rfl) (by decide) (by unfold maxLen; omega) (by omega) (by simp only [World.size_alloc]; omega) _ rfl ?_; intro gp cap w3 hown hgrow hat hlt)
  have hb3 : Below w2.heap.size w2 w3 := ((Below.refl _ w2).alloc (Nat.le_refl _) _).trans (grown_below hgrow (by simp only [World.size_alloc]; omega) (fun k hk => by cases hk))
  have hcell := hown.cellAt 0 (by decide)
  have HB3 := hid_of (HB2.out.trans (hb3.mono HB2.out.size))
  have hcs3 := hid_of (stay hb3 hcs.out)
  replace hcell := hid_of (by simpa using hcell : w3.cell? ⟨gp, 0, none⟩ = some (.slice (some ⟨gs, 0, none⟩) 1 cs))
  clear hb3 hcs hown hgrow hat hlt HB2
  rw [rounds_succ]
  go_wp2_with fail
  go_ret2
  exact ⟨HB3.out, gp, cap, gs, cs, rfl, hcell.out, ⟨hcs1, hcs2⟩, hcs3.out⟩
set_option maxHeartbeats 2000000 in
set_option maxRecDepth 100000 in
theorem places_one (mv : Value) (g c : Nat) (s : ByteArray) (h1 : 1 ≤ s.size) (h2 : Dp.byteAt s 0 ≠ 36) (u : V5) (w : World) (hc : w.cell? ⟨g, 0, none⟩ = some (.string s)) :
    Calls Tryz.prog 112 #[mv, pathV g c, u.v] w fun e w' => Below w.heap.size w w' ∧ ∃ gp cp gs cs, e = .returned (.tuple #[.slice (some ⟨gp, 0, none⟩) 1 cp, .nilIface]) ∧ w'.cell? ⟨gp, 0, none⟩ = some (.slice (some ⟨gs, 0, none⟩) 1 cs) ∧ (1 ≤ cs ∧ cs ≤ 9223372036854775807) ∧ w'.cell? ⟨gs, 0, none⟩ = some (.string s) := by
  have hon := fun g' c' w' (h : Hid (w'.cell? ⟨g', 0, none⟩ = some (.slice none 0 0))) => onward_one mv g' c' s h1 h2 u w' h.out
  have hc1 := cell_alloc' (cell_alloc' hc (u.obj 28)) (.cells #[.slice none 0 0] 25)
  have hB1 : Below w.heap.size w ((w.alloc (u.obj 28)).alloc (.cells #[.slice none 0 0] 25)) := ((Below.refl w.heap.size w).alloc (Nat.le_refl _) _).alloc (by simp) _
  have X0 : ((w.alloc (u.obj 28)).alloc (.cells #[.slice none 0 0] 25)).heap[w.heap.size]? = some (u.obj 28) := al_lt (by simp) (al_eq rfl)
  have X1 : ((w.alloc (u.obj 28)).alloc (.cells #[.slice none 0 0] 25)).cell? ⟨w.heap.size + 1, 0, none⟩ = some (.slice none 0 0) := cell_of (al_eq (by simp)) 0
  obtain ⟨z0, z1, z2, z3, z4⟩ := box_five X0 (Below.refl _ _)
  replace hB1 := hid_of hB1; replace X0 := hid_of X0; replace X1 := hid_of X1
  clear h1 h2 hc
  unfold V5.v V5.obj at *
  go_enter Tryz.func112, Tryz.ntmps112
  go_wp2_with fail
  generalize (w.alloc (.cells #[.int .i64 u.k, .int .i64 u.x, .string u.s, .slice u.an u.ln u.cn, .slice u.ai u.li u.ci] 28)).alloc (.cells #[.slice none 0 0] 25) = w0 at *
  refine wp_loop_rounds 2 ?_
  rw [rounds_succ]
  go_wp2_with fail
  refine (hon _ _ _ X1).mono ?_
  rintro e w1 ⟨hb1, gp, cp, gs, cs, rfl, hgp, hcs, hgs⟩
  have HB1 := hid_of (hB1.out.trans (hb1.mono hB1.out.size))
  replace hgp := hid_of hgp; replace hcs := hid_of hcs; replace hgs := hid_of hgs
  clear hon hb1 hB1 X0 X1 z0 z1 z2 z3 z4 hc1
  go_wp2_with fail
  rw [rounds_succ]
  go_wp2_with fail
  go_ret2
  exact ⟨HB1.out, gp, cp, gs, cs, rfl, hgp.out, hcs.out, hgs.out⟩
end Go.Proofs.YthgnkhpomhcdkaaGreatDoor
/-! update: the change of $inc at a number, and elsewhere. -/
namespace Go.Proofs.YthgnkhpomhcdkaaGreatDoor
open Go Go.RowKit Dp

theorem get_hit (t t' : Tr) (u : V5) (pv : Value) (l : List ByteArray) (w : World) (hV : VRep w t u.cs) (hP : Reads w pv l) (hl : l.length ≤ 9223372036854775806) (hS : Hid (Sized l)) (hg : getT t l = some t') :
    Calls Tryz.prog 82 #[u.v, pv] w fun e w' => Below w.heap.size w w' ∧ ∃ y : V5, e = .returned (.tuple #[y.v, .bool true]) ∧ VRep w' t' y.cs := by
  have h := get_any t u.cs pv l w hV hP hl hS
  rw [hg] at h
  refine h.mono ?_
  rintro e w' ⟨hb, cs, rfl, hr⟩
  obtain ⟨y, rfl⟩ := v5_of hr
  exact ⟨hb, y, rfl, hr⟩
theorem num_five {w : World} {x : Int} {y : V5} (h : VRep w (numT x) y.cs) : y.k = 3 ∧ y.x = x := by
  unfold numT VRep V5.cs five at h
  obtain ⟨nm, a, c, h, -⟩ := h
  simp only [List.cons.injEq, Value.int.injEq] at h
  exact ⟨h.1.2, h.2.1.2⟩
theorem word_five {w : World} {s : ByteArray} {y : V5} (h : VRep w (wordT s) y.cs) : y.k = 4 := by
  unfold wordT VRep V5.cs five at h
  obtain ⟨nm, a, c, h, -⟩ := h
  simp only [List.cons.injEq, Value.int.injEq] at h
  exact h.1.2
theorem add1_any (y : Int) (b : Nat) (a : V5) (h0 : -9223372036854775808 ≤ y + a.x) (h1 : y + a.x ≤ 9223372036854775807) (w : World) (hb : w.heap[b]? = some (a.obj 28)) :
    Calls Tryz.prog 76 #[.int .i64 y, .pointer (some ⟨b, 0, none⟩)] w fun e w' => e = .returned (.tuple #[.int .i64 (y + a.x), .bool true]) ∧ w' = w := by
  obtain ⟨z0, z1, z2, z3, z4⟩ := box_five hb (Below.refl _ _)
  clear hb
  go_enter Tryz.func76, Tryz.ntmps76
  go_wp2_with fail
  refine (sum_any y a.x h0 h1 _).mono ?_
  rintro e w1 ⟨rfl, rfl⟩
  go_wp2_with fail
  go_ret2
  exact ⟨rfl, rfl⟩
set_option maxHeartbeats 4000000 in
set_option maxRecDepth 100000 in
theorem inc_hit (t : Tr) (u a : V5) (x : Int) (b : Nat) (pv : Value) (l : List ByteArray) (S0 : Nat → Prop) (w : World) (hSw0 : ∀ k, S0 k → k < w.heap.size) (hV0 : Seen w S0 t u.cs) (hP : Reads w pv l) (hl : l.length ≤ 1000000) (hS : Hid (Sized l)) (hb : ∀ st ∈ (downT t l).2, (st.1.items.length + 1) * 80 ≤ 140737488355328) (hd : (downT t l).1 = 0)
    (hg : getT t l = some (numT x)) (hI : IncAt w b a) (h0 : -9223372036854775808 ≤ x + a.x) (h1 : x + a.x ≤ 9223372036854775807) :
    Calls Tryz.prog 122 #[u.v, pv, .pointer (some ⟨b + 1, 0, none⟩), .pointer (some ⟨b + 2, 0, none⟩)] w (Laid S0 w (setT t l (numT (x + a.x)))) := by
  have hV := hV0.rep
  have hB2 : ∀ o1 o2, Below w.heap.size w ((w.alloc o1).alloc o2) := fun o1 o2 => ((Below.refl _ w).alloc (Nat.le_refl _) o1).alloc (by simp) o2
  have hget := fun o1 o2 => hid_of (get_hit t _ u pv l ((w.alloc o1).alloc o2) (VRep.keep (hB2 o1 o2) _ _ hV) (hP.keep (hB2 o1 o2)) (by omega) hS hg)
  have hlaid := hid_of (fun W (hbw : Below w.heap.size w W) => ulaid_any t (numT (x + a.x)) u (numU (x + a.x)) pv l W S0 S0 (fun k hk => by have := hbw.size; have := hSw0 k hk; omega) (fun k hk => hk) (hV0.keep hbw) (fun W' _ => vrep_num W' _) (hP.keep hbw) hl hS hb hd)
  have X0 : ∀ o2, ((w.alloc (u.obj 28)).alloc o2).heap[w.heap.size]? = some (u.obj 28) := fun o2 => al_lt (by simp) (al_eq rfl)
  have X1 : ∀ o1 o2, ((w.alloc o1).alloc o2).heap[w.heap.size + 1]? = some o2 := fun o1 o2 => al_eq (by simp)
  replace hI := hid_of hI
  have hadd := hid_of (fun W (hbw : Below w.heap.size w W) => add1_any x b a h0 h1 W (hI.out.keep hbw).box)
  clear hV hV0 hP hS hb hd hg hl h0 h1
  unfold V5.v V5.obj at *
  go_enter Tryz.func122, Tryz.ntmps122
  go_wp2_with fail
  have HB0 := hid_of (hB2 (.cells #[.int .i64 u.k, .int .i64 u.x, .string u.s, .slice u.an u.ln u.cn, .slice u.ai u.li u.ci] 28) (.cells #[.int .i64 0, .int .i64 0, .string ⟨#[]⟩, .slice none 0 0, .slice none 0 0] 28))
  have C0 := hid_of (X0 (.cells #[.int .i64 0, .int .i64 0, .string ⟨#[]⟩, .slice none 0 0, .slice none 0 0] 28))
  have C1 := hid_of (X1 (.cells #[.int .i64 u.k, .int .i64 u.x, .string u.s, .slice u.an u.ln u.cn, .slice u.ai u.li u.ci] 28) (.cells #[.int .i64 0, .int .i64 0, .string ⟨#[]⟩, .slice none 0 0, .slice none 0 0] 28))
  have hget1 := hget (.cells #[.int .i64 u.k, .int .i64 u.x, .string u.s, .slice u.an u.ln u.cn, .slice u.ai u.li u.ci] 28) (.cells #[.int .i64 0, .int .i64 0, .string ⟨#[]⟩, .slice none 0 0, .slice none 0 0] 28)
  clear hget hB2 X0 X1
  generalize (w.alloc (.cells #[.int .i64 u.k, .int .i64 u.x, .string u.s, .slice u.an u.ln u.cn, .slice u.ai u.li u.ci] 28)).alloc (.cells #[.int .i64 0, .int .i64 0, .string ⟨#[]⟩, .slice none 0 0, .slice none 0 0] 28) = wq at *
  refine hget1.out.mono ?_
  rintro e w1 ⟨hb1, y, rfl, hy⟩
  obtain ⟨hyk, hyx⟩ := num_five hy
  have HB1 := hid_of (HB0.out.trans (hb1.mono HB0.out.size))
  have D0 := hid_of (block_keep C0.out hb1)
  have D1 := hid_of (block_keep C1.out hb1)
  obtain ⟨k, yx, ys, an, ln, cn, ai, li, ci⟩ := y
  simp only at hyk hyx
  subst hyk hyx
  have hbA : Below w1.heap.size w1 (w1.alloc (.cells #[.int .i64 3, .int .i64 yx, .string ys, .slice an ln cn, .slice ai li ci] 28)) := (Below.refl _ w1).alloc (Nat.le_refl _) _
  have HB2 := hid_of (HB1.out.trans (hbA.mono HB1.out.size))
  have E0 := hid_of (block_keep D0.out hbA)
  have E1 := hid_of (block_keep D1.out hbA)
  have E2 := hid_of (heap_alloc_new w1 (.cells #[.int .i64 3, .int .i64 yx, .string ys, .slice an ln cn, .slice ai li ci] 28))
  have hin := isInt_any ⟨3, yx, ys, an, ln, cn, ai, li, ci⟩ (w1.alloc (.cells #[.int .i64 3, .int .i64 yx, .string ys, .slice an ln cn, .slice ai li ci] 28))
  clear hb1 hy hbA C0 C1 D0 D1 HB0 HB1 hget1
  unfold V5.v at hin
  simp only [show ((3 : Int) == 3) = true from rfl] at hin
  dsimp only
  replace hin := hid_of hin
  obtain ⟨v0, v1, v2, v3, v4, -⟩ := row_cells E2.out
  go_wp2_with fail
  refine hin.out.mono ?_
  rintro e w3 ⟨rfl, hb3⟩
  have HB3 := hid_of (HB2.out.trans (hb3.mono HB2.out.size))
  have F0 := hid_of (block_keep E0.out hb3)
  have F1 := hid_of (block_keep E1.out hb3)
  have F2 := block_keep E2.out hb3
  have c2 : w3.cell? ⟨b + 2, 0, none⟩ = some (.func (.func 76) #[] #[.pointer (some ⟨b, 0, none⟩)]) := cell_of (hI.out.keep HB3.out).next 0
  clear hb3 E0 E1 E2 hin v0 v1 v2 v3 v4 HB2
  obtain ⟨v0, v1, v2, v3, v4, -⟩ := row_cells F2
  replace F2 := hid_of F2
  have had := hid_of (hadd.out w3 HB3.out)
  go_wp2_with fail
  refine had.out.mono ?_
  rintro e w4 ⟨rfl, rfl⟩
  clear v0 v1 v2 v3 v4 c2 had hadd F2
  go_wp2_with fail
  obtain ⟨z0, z1, z2, z3, z4, -⟩ := row_cells F0.out
  go_region_held3 (fun W => W.cell? ⟨w.heap.size, 0, none⟩ = some (.int .i64 u.k) ∧ W.cell? ⟨w.heap.size, 1, none⟩ = some (.int .i64 u.x) ∧ W.cell? ⟨w.heap.size, 2, none⟩ = some (.string u.s) ∧ W.cell? ⟨w.heap.size, 3, none⟩ = some (.slice u.an u.ln u.cn) ∧ W.cell? ⟨w.heap.size, 4, none⟩ = some (.slice u.ai u.li u.ci)) (go_keep) (first
    | (go_at_call 123; refine (jof_any _ _).mono ?_; rintro e X1 ⟨rfl, hbx⟩; have hb5 : Below w4.heap.size w4 X1 := (below_drewN (Below.refl _ w4) 1).trans hbx; have HB5 := hid_of (HB3.out.trans (hb5.mono HB3.out.size)); have G0 := hid_of (block_keep F0.out hb5); have G1 := hid_of (block_keep F1.out hb5); obtain ⟨j0, j1, j2, j3, j4, -⟩ := row_cells G0.out; clear hbx hb5)
    | (go_at_call 72; refine (hlaid.out X1 HB5.out).mono ?_; rintro e X2 ⟨hb6, ⟨k2, x2, s2, an2, ln2, cn2, ai2, li2, ci2⟩, rfl, hy⟩; unfold V5.v; dsimp only; have HB6 := hid_of (HB5.out.trans (hb6.mono HB5.out.size)); have H0 := hid_of (block_keep G0.out hb6); have H1 := hid_of (block_keep G1.out hb6); replace hy := hid_of hy; obtain ⟨i0, i1, i2, i3, i4, -⟩ := row_cells H0.out; obtain ⟨t0, t1, t2, t3, t4, tf⟩ := row_cells H1.out; have tf0 := tf 0; have tf1 := tf 1; have tf2 := tf 2; have tf3 := tf 3; have tf4 := tf 4; clear hb6 tf))
  rw [← put5_def]
  have hs5 : w.heap.size + 1 < X1.heap.size := (Array.getElem?_eq_some_iff.1 G1.out).1
  have hr := put5_at H1.out (.int .i64 k2) (.int .i64 x2) (.string s2) (.slice an2 ln2 cn2) (.slice ai2 li2 ci2)
  have hB4 := hid_of (HB6.out.trans (put5_below (w := X2) (g := w.heap.size + 1) (by omega) (.int .i64 k2) (.int .i64 x2) (.string s2) (.slice an2 ln2 cn2) (.slice ai2 li2 ci2)))
  have hfin := hid_of (Seen.wide (S' := fun k => S0 k ∨ w.heap.size ≤ k) (hy.out.agree (W' := put5 X2 (w.heap.size + 1) (.int .i64 k2) (.int .i64 x2) (.string s2) (.slice an2 ln2 cn2) (.slice ai2 li2 ci2)) ⟨Nat.le_of_eq (put5_size _ _ _ _ _ _ _).symm, fun p u hp hc => (World.cell?_of_block (w := X2) (put5_far (.int .i64 k2) (.int .i64 x2) (.string s2) (.slice an2 ln2 cn2) (.slice ai2 li2 ci2) (show p.block ≠ w.heap.size + 1 from fun e => by
    have hp' : S0 p.block ∨ X1.heap.size ≤ p.block := hp
    have hp2 := hSw0 p.block
    rcases hp' with h | h
    · have := hp2 h; omega
    · omega))).trans hc⟩) (fun k hk => by
      rcases hk with h | h
      · exact .inl h
      · exact .inr (by omega)))
  clear i0 i1 i2 i3 i4 j0 j1 j2 j3 j4 t0 t1 t2 t3 t4 tf0 tf1 tf2 tf3 tf4 z0 z1 z2 z3 z4 G0 G1 H0 H1 HB3 HB5 HB6 hy F0 F1 hlaid
  generalize put5 X2 (w.heap.size + 1) (.int .i64 k2) (.int .i64 x2) (.string s2) (.slice an2 ln2 cn2) (.slice ai2 li2 ci2) = w9 at hr hB4 hfin ⊢
  have q0 : w9.cell? ⟨w.heap.size + 1, 0, none⟩ = some (.int .i64 k2) := cell_of hr 0
  have q1 : w9.cell? ⟨w.heap.size + 1, 1, none⟩ = some (.int .i64 x2) := cell_of hr 1
  have q2 : w9.cell? ⟨w.heap.size + 1, 2, none⟩ = some (.string s2) := cell_of hr 2
  have q3 : w9.cell? ⟨w.heap.size + 1, 3, none⟩ = some (.slice an2 ln2 cn2) := cell_of hr 3
  have q4 : w9.cell? ⟨w.heap.size + 1, 4, none⟩ = some (.slice ai2 li2 ci2) := cell_of hr 4
  go_wp2_with fail
  refine bodyPost_ret (v := .tuple #[.agg #[.int .i64 k2, .int .i64 x2, .string s2, .slice an2 ln2 cn2, .slice ai2 li2 ci2], .nilIface]) (by simp [results, Tryz.results122, go_sem, q0, q1, q2, q3, q4]) rfl ?_
  exact ⟨hB4.out, ⟨k2, x2, s2, an2, ln2, cn2, ai2, li2, ci2⟩, rfl, hfin.out⟩
end Go.Proofs.YthgnkhpomhcdkaaGreatDoor
/-! update: the change of $inc where no number stands. -/
namespace Go.Proofs.YthgnkhpomhcdkaaGreatDoor
open Go Go.RowKit Dp

set_option maxHeartbeats 4000000 in
set_option maxRecDepth 100000 in
theorem inc_not (t : Tr) (u : V5) (z : ByteArray) (b : Nat) (pv : Value) (l : List ByteArray) (w : World) (hV : VRep w t u.cs) (hP : Reads w pv l) (hl : l.length ≤ 1000000) (hS : Hid (Sized l)) (hg : getT t l = some (wordT z)) :
    Calls Tryz.prog 122 #[u.v, pv, .pointer (some ⟨b + 1, 0, none⟩), .pointer (some ⟨b + 2, 0, none⟩)] w fun e w' => e = .returned (.tuple #[u.v, .iface 69 (.int .i64 56)]) ∧ Below w.heap.size w w' := by
  have hB2 : ∀ o1 o2, Below w.heap.size w ((w.alloc o1).alloc o2) := fun o1 o2 => ((Below.refl _ w).alloc (Nat.le_refl _) o1).alloc (by simp) o2
  have hget := fun o1 o2 => hid_of (get_hit t _ u pv l ((w.alloc o1).alloc o2) (VRep.keep (hB2 o1 o2) _ _ hV) (hP.keep (hB2 o1 o2)) (by omega) hS hg)
  have X0 : ∀ o2, ((w.alloc (u.obj 28)).alloc o2).heap[w.heap.size]? = some (u.obj 28) := fun o2 => al_lt (by simp) (al_eq rfl)
  have X1 : ∀ o1 o2, ((w.alloc o1).alloc o2).heap[w.heap.size + 1]? = some o2 := fun o1 o2 => al_eq (by simp)
  clear hV hP hS hg hl
  unfold V5.v V5.obj at *
  go_enter Tryz.func122, Tryz.ntmps122
  go_wp2_with fail
  have HB0 := hid_of (hB2 (.cells #[.int .i64 u.k, .int .i64 u.x, .string u.s, .slice u.an u.ln u.cn, .slice u.ai u.li u.ci] 28) (.cells #[.int .i64 0, .int .i64 0, .string ⟨#[]⟩, .slice none 0 0, .slice none 0 0] 28))
  have C0 := hid_of (X0 (.cells #[.int .i64 0, .int .i64 0, .string ⟨#[]⟩, .slice none 0 0, .slice none 0 0] 28))
  have C1 := hid_of (X1 (.cells #[.int .i64 u.k, .int .i64 u.x, .string u.s, .slice u.an u.ln u.cn, .slice u.ai u.li u.ci] 28) (.cells #[.int .i64 0, .int .i64 0, .string ⟨#[]⟩, .slice none 0 0, .slice none 0 0] 28))
  have hget1 := hget (.cells #[.int .i64 u.k, .int .i64 u.x, .string u.s, .slice u.an u.ln u.cn, .slice u.ai u.li u.ci] 28) (.cells #[.int .i64 0, .int .i64 0, .string ⟨#[]⟩, .slice none 0 0, .slice none 0 0] 28)
  clear hget hB2 X0 X1
  generalize (w.alloc (.cells #[.int .i64 u.k, .int .i64 u.x, .string u.s, .slice u.an u.ln u.cn, .slice u.ai u.li u.ci] 28)).alloc (.cells #[.int .i64 0, .int .i64 0, .string ⟨#[]⟩, .slice none 0 0, .slice none 0 0] 28) = wq at *
  refine hget1.out.mono ?_
  rintro e w1 ⟨hb1, y, rfl, hy⟩
  have hyk := word_five hy
  have HB1 := hid_of (HB0.out.trans (hb1.mono HB0.out.size))
  have D0 := hid_of (block_keep C0.out hb1)
  have D1 := hid_of (block_keep C1.out hb1)
  obtain ⟨k, yx, ys, an, ln, cn, ai, li, ci⟩ := y
  simp only at hyk
  subst hyk
  have hbA : Below w1.heap.size w1 (w1.alloc (.cells #[.int .i64 4, .int .i64 yx, .string ys, .slice an ln cn, .slice ai li ci] 28)) := (Below.refl _ w1).alloc (Nat.le_refl _) _
  have HB2 := hid_of (HB1.out.trans (hbA.mono HB1.out.size))
  have E0 := hid_of (block_keep D0.out hbA)
  have E1 := hid_of (block_keep D1.out hbA)
  have E2 := hid_of (heap_alloc_new w1 (.cells #[.int .i64 4, .int .i64 yx, .string ys, .slice an ln cn, .slice ai li ci] 28))
  have hin := isInt_any ⟨4, yx, ys, an, ln, cn, ai, li, ci⟩ (w1.alloc (.cells #[.int .i64 4, .int .i64 yx, .string ys, .slice an ln cn, .slice ai li ci] 28))
  clear hb1 hy hbA C0 C1 D0 D1 HB0 HB1 hget1
  unfold V5.v at hin
  simp only [show ((4 : Int) == 3) = false from rfl] at hin
  dsimp only
  replace hin := hid_of hin
  obtain ⟨v0, v1, v2, v3, v4, -⟩ := row_cells E2.out
  go_wp2_with fail
  refine hin.out.mono ?_
  rintro e w3 ⟨rfl, hb3⟩
  have HB3 := hid_of (HB2.out.trans (hb3.mono HB2.out.size))
  have F0 := block_keep E0.out hb3
  have F1 := block_keep E1.out hb3
  clear hb3 E0 E1 E2 hin v0 v1 v2 v3 v4 HB2
  obtain ⟨z0, z1, z2, z3, z4, -⟩ := row_cells F0
  obtain ⟨t0, t1, t2, t3, t4, tf⟩ := row_cells F1
  have tf0 := tf 0; have tf1 := tf 1; have tf2 := tf 2; have tf3 := tf 3; have tf4 := tf 4
  replace F0 := hid_of F0; replace F1 := hid_of F1
  clear tf
  go_wp2_with fail
  rw [← put5_def]
  have hr := put5_at F1.out (.int .i64 u.k) (.int .i64 u.x) (.string u.s) (.slice u.an u.ln u.cn) (.slice u.ai u.li u.ci)
  have hB4 := hid_of (HB3.out.trans (put5_below (w := w3) (g := w.heap.size + 1) (by omega) (.int .i64 u.k) (.int .i64 u.x) (.string u.s) (.slice u.an u.ln u.cn) (.slice u.ai u.li u.ci)))
  clear z0 z1 z2 z3 z4 t0 t1 t2 t3 t4 tf0 tf1 tf2 tf3 tf4 F0 F1 HB3
  generalize put5 w3 (w.heap.size + 1) (.int .i64 u.k) (.int .i64 u.x) (.string u.s) (.slice u.an u.ln u.cn) (.slice u.ai u.li u.ci) = w9 at hr hB4 ⊢
  have q0 : w9.cell? ⟨w.heap.size + 1, 0, none⟩ = some (.int .i64 u.k) := cell_of hr 0
  have q1 : w9.cell? ⟨w.heap.size + 1, 1, none⟩ = some (.int .i64 u.x) := cell_of hr 1
  have q2 : w9.cell? ⟨w.heap.size + 1, 2, none⟩ = some (.string u.s) := cell_of hr 2
  have q3 : w9.cell? ⟨w.heap.size + 1, 3, none⟩ = some (.slice u.an u.ln u.cn) := cell_of hr 3
  have q4 : w9.cell? ⟨w.heap.size + 1, 4, none⟩ = some (.slice u.ai u.li u.ci) := cell_of hr 4
  refine bodyPost_ret (v := .tuple #[.agg #[.int .i64 u.k, .int .i64 u.x, .string u.s, .slice u.an u.ln u.cn, .slice u.ai u.li u.ci], .iface 69 (.int .i64 56)]) (by simp [results, Tryz.results122, go_sem, q0, q1, q2, q3, q4]) rfl ?_
  exact ⟨rfl, hB4.out⟩
end Go.Proofs.YthgnkhpomhcdkaaGreatDoor
/-! slices.Concat of a list of one Value, another of one, and an empty one. -/
namespace Go.Proofs.YthgnkhpomhcdkaaGreatDoor
open Go Go.RowKit

set_option maxHeartbeats 1000000 in
set_option maxRecDepth 100000 in
theorem vgrow2 (w : World) : Calls Tryz.prog 183 #[.slice none 0 0, .int .i64 2] w fun e w' => Below w.heap.size w w' ∧ ∃ cap, e = .returned (.slice (some ⟨w.heap.size, 0, none⟩) 0 cap) ∧ w'.ownsRow w.heap.size 28 5 (.slice (some ⟨w.heap.size, 0, none⟩) 0 cap) 0 [] := by
  have hge := hid_of (grownCap_ge w 2 0 28)
  have hle := hid_of (grownCap_le_maxLen w 2 0 28 (by unfold maxLen; omega))
  unfold grownCap at hge hle
  go_enter Tryz.func183, Tryz.ntmps183
  go_wp2_with fail
  go_ret
  refine ⟨below_drew ((Below.refl _ w).alloc (Nat.le_refl _) _), _, rfl, rfl, .inr ⟨w.heap.size, _, _, rfl, Nat.le_refl _, heap_alloc_new w _, Nat.zero_le _, hle.out, ?_, by simp⟩⟩
  have := hge.out
  simp only [Array.size_append, size_zeroCells]
  simp
  omega
set_option maxHeartbeats 2000000 in
set_option maxRecDepth 100000 in
theorem concat3 (gc cc b1 o1 c1 b2 o2 c2 : Nat) (a3 : Option Addr) (c3 : Nat) (u1 u2 : V5) (w : World) (k0 : w.cell? ⟨gc, 0, none⟩ = some (.slice (some ⟨b1, o1, none⟩) 1 c1)) (k1 : w.cell? ⟨gc, 1, none⟩ = some (.slice (some ⟨b2, o2, none⟩) 1 c2)) (k2 : w.cell? ⟨gc, 2, none⟩ = some (.slice a3 0 c3))
    (h1 : ∀ j v, u1.cs[j]? = some v → w.cell? ⟨b1, o1 + j, none⟩ = some v) (h2 : ∀ j v, u2.cs[j]? = some v → w.cell? ⟨b2, o2 + j, none⟩ = some v) :
    Calls Tryz.prog 140 #[.slice (some ⟨gc, 0, none⟩) 3 cc] w fun e w' => Below w.heap.size w w' ∧ ∃ g cap, e = .returned (.slice (some ⟨g, 0, none⟩) 2 cap) ∧ w'.ownsRow w.heap.size 28 5 (.slice (some ⟨g, 0, none⟩) 2 cap) 2 (u1.cs ++ u2.cs) := by
  obtain ⟨i5, hi5, hz0, hz1, hz2⟩ := info_parts AV
  have l0 : gc < w.heap.size := lt_of_cell k0
  have l2 : b2 < w.heap.size := lt_of_cell (h2 0 _ rfl)
  replace h1 := hid_of h1
  replace h2 := hid_of h2
  go_enter Tryz.func140, Tryz.ntmps140
  go_wp2_with fail
  refine wp_loop_rounds 4 ?_
  rw [rounds_succ]
  go_wp2_with fail
  rw [rounds_succ]
  go_wp2_with fail
  rw [rounds_succ]
  go_wp2_with fail
  rw [rounds_succ]
  go_wp2_with fail
  refine (vgrow2 w).mono ?_
  rintro e X1 ⟨hb1, cap, rfl, hO⟩
  replace k0 := stay hb1 k0
  replace k1 := stay hb1 k1
  replace k2 := stay hb1 k2
  replace h1 := hid_of (fun j v hj => stay hb1 (h1.out j v hj))
  replace h2 := hid_of (fun j v hj => stay hb1 (h2.out j v hj))
  have hs1 := hid_of hb1.size
  replace hb1 := hid_of hb1
  replace hO := hid_of hO
  go_wp2_with fail
  refine wp_loop_rounds 4 ?_
  rw [rounds_succ]
  go_wp2_with (at_builtin; refine wpList_append_lies _ rfl _ _ 26 rfl w.heap.size 28 i5 _ 5 80 Tryz.underlying26 hi5 hz0 hz1 hz2 rfl (by decide) _ 0 ([] : List Value) rfl hO.out _ 1 c1 u1.cs rfl rfl (fun j v hj => by rw [add_off]; exact h1.out j v hj) (five_cs u1) (by decide) (by unfold maxLen; omega) (by omega) hs1.out _ rfl ?_; intro g3 cap3 X2 hown3 hgrow3 hat3 hlt3; have q2' := hid_of (hb1.out.trans (grown_below hgrow3 hs1.out (fun g hg => by cases hg; exact Nat.le_refl _))); have hbx := hid_of (grown_below (B := w.heap.size) hgrow3 hs1.out (fun g hg => by cases hg; exact Nat.le_refl _)); have kk1 := (World.cell?_of_block (a := ⟨gc, 1, none⟩) (hbx.out.block gc l0)).trans k1; have kk2 := (World.cell?_of_block (a := ⟨gc, 2, none⟩) (hbx.out.block gc l0)).trans k2; have hh2 := hid_of (fun j v hj => (World.cell?_of_block (a := ⟨b2, o2 + j, none⟩) (hbx.out.block b2 l2)).trans (h2.out j v hj)); replace hown3 := hid_of hown3; have hg3 := hid_of (ownsRow_ge hown3.out rfl); clear hgrow3 hat3 hlt3 hO k0 k1 k2 h1 h2 hbx)
  rw [rounds_succ]
  go_wp2_with (at_builtin; refine wpList_append_lies _ rfl _ _ 26 rfl w.heap.size 28 i5 _ 5 80 Tryz.underlying26 hi5 hz0 hz1 hz2 rfl (by decide) _ 1 u1.cs rfl hown3.out _ 1 c2 u2.cs rfl rfl (fun j v hj => by rw [add_off]; exact hh2.out j v hj) (five_cs u2) (by decide) (by unfold maxLen; omega) (by omega) q2'.out.size _ rfl ?_; intro g4 cap4 X3 hown4 hgrow4 hat4 hlt4; have q3 := hid_of (q2'.out.trans (grown_below hgrow4 q2'.out.size (fun g hg => by cases hg; exact hg3.out.1))); have hbx := hid_of (grown_below (B := w.heap.size) hgrow4 q2'.out.size (fun g hg => by cases hg; exact hg3.out.1)); have kkk2 := (World.cell?_of_block (a := ⟨gc, 2, none⟩) (hbx.out.block gc l0)).trans kk2; replace hown4 := hid_of hown4; clear hgrow4 hat4 hlt4 hbx kk1 kk2 hh2)
  have hle4 : 2 ≤ cap4 := by
    rcases hown4.out.2 with ⟨h, -⟩ | ⟨g', cap', cur, hv, m1, m2, m3, -⟩
    · cases h
    · simp only [Value.slice.injEq] at hv
      rw [hv.2.2]; exact m3
  rw [rounds_succ]
  go_wp2_with (at_builtin; refine Tree.wpList_append_zero _ rfl _ _ 26 rfl 28 i5 Tryz.underlying26 hi5 g4 2 cap4 hle4 rfl a3 c3 rfl ?_)
  rw [rounds_succ]
  go_wp2_with fail
  go_ret
  exact ⟨q3.out, g4, cap4, rfl, hown4.out⟩
end Go.Proofs.YthgnkhpomhcdkaaGreatDoor
