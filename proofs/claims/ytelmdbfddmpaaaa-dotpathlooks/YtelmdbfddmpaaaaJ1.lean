import Derived.Test.YtelmdbfddmpaaaaH3
/-! What Looks leans on: large, values, number. -/
namespace Go.Proofs.Ytelmdbfddmpaaaa
open Go Go.RowKit

/-- What large tells. -/
def LargeOk (z : Bool) (t : Tr) : Prop := z = false → partsT t ≤ 5000
set_option maxHeartbeats 2000000 in
set_option maxRecDepth 100000 in
theorem large_t (t : Tr) (k x : Int) (s : ByteArray) (an : Option Addr) (ln cn : Nat) (ai : Option Addr) (li ci : Nat) (b c : Nat) (w : World) (hV : Hid (VRep w t (five k x s (.slice an ln cn) (.slice ai li ci)))) (hS : Hid (SmallT t)) (hC : CellsAt w b 0 (five k x s (.slice an ln cn) (.slice ai li ci))) :
    Calls Try.prog 6 #[.slice (some ⟨b, 0, none⟩) 1 c] w fun e w' => (∃ z, e = .returned (.bool z) ∧ LargeOk z t) ∧ Below w.heap.size w w' := by
  have g0 := hC 0 _ rfl
  have g1 := hC 1 _ rfl
  have g2 := hC 2 _ rfl
  have g3 := hC 3 _ rfl
  have g4 := hC 4 _ rfl
  simp only [Nat.zero_add, Nat.add_zero] at g0 g1 g2 g3 g4
  clear hC
  go_enter Try.func6, Try.ntmps6
  go_wp2_with fail
  go_loopw [3, 4] (fun n i wr => ∃ (z : Int) (q : Nat), q ≤ 1 ∧ n = .int .i64 z ∧ i = .int .i64 q ∧ Below w.heap.size w wr ∧ Hid (q = 0 → z = 0) ∧ Hid (q = 1 → PartsOk 5000 z (partsT t))) (fun _ i _ => 1 - (intOf i).toNat)
  case atStart => exact ⟨0, 0, by omega, rfl, rfl, Below.refl _ w, fun _ => rfl, fun h => by omega⟩
  case round =>
    obtain ⟨z, q, hq, rfl, rfl, hbel, h0, h1⟩ := hrel
    by_cases hlt : q = 0
    · subst hlt
      obtain rfl : z = 0 := h0.out rfl
      have hcall := hid_f (parts_exact t (five k x s (.slice an ln cn) (.slice ai li ci)) 5000 wr (VRep.keep hbel _ _ hV.out) hS.out (by omega) (by omega))
      replace g0 := stay hbel g0
      replace g1 := stay hbel g1
      replace g2 := stay hbel g2
      replace g3 := stay hbel g3
      replace g4 := stay hbel g4
      go_wp2_with fail
      go_fit hcall.out
      rintro e w1 ⟨⟨z', rfl, hp⟩, hb1⟩
      obtain ⟨hp1, hp2, -, -⟩ := id hp
      have hw3 : IntKind.i64.wrap z' = z' := wrap_in _ (by omega) (by omega)
      replace hp := hid_f hp
      clear g0 g1 g2 g3 g4 hcall h0 h1
      have hbel1 : Below w.heap.size w w1 := hbel.trans (hb1.mono hbel.size)
      go_wp2_with fail
      go_roundw
      case rel => exact ⟨z', 1, by omega, by simp, by simp, hbel1, fun h => by omega, fun _ => hp.out⟩
      case measure => simp [intOf]
    · obtain rfl : q = 1 := by omega
      have hp := h1.out rfl
      obtain ⟨hp1, hp2, hp3, hp4⟩ := hp
      by_cases hz : 5000 < z
      · have hd : decide ((5000 : Int) < z) = true := by simpa using hz
        clear g0 g1 g2 g3 g4 h0 h1
        go_wp2_with fail
        go_ret
        exact ⟨⟨true, rfl, fun h => by cases h⟩, hbel⟩
      · have hd : decide ((5000 : Int) < z) = false := by simpa using hz
        have hfin : Hid (partsT t ≤ 5000) := hid_f (by have := hp3 (by omega); omega)
        clear g0 g1 g2 g3 g4 h0 h1 hp3 hp4
        go_wp2_with fail
        go_ret
        exact ⟨.inl ⟨rfl, fun _ => hfin.out⟩, hbel⟩
set_option maxHeartbeats 1000000 in
theorem equal_law (t : Tr) (k x : Int) (s : ByteArray) (an : Option Addr) (ln cn : Nat) (ai : Option Addr) (li ci : Nat) (k' x' : Int) (s' : ByteArray) (an' : Option Addr) (ln' cn' : Nat) (ai' : Option Addr) (li' ci' : Nat) (w : World) (hV : VRep w t (five k x s (.slice an ln cn) (.slice ai li ci))) (hV' : VRep w t (five k' x' s' (.slice an' ln' cn') (.slice ai' li' ci'))) :
    Calls Try.prog 12 #[.agg #[.int .i64 k, .int .i64 x, .string s, .slice an ln cn, .slice ai li ci], .agg #[.int .i64 k', .int .i64 x', .string s', .slice an' ln' cn', .slice ai' li' ci']] w fun e w' => e = .returned (.bool true) ∧ Below w.heap.size w w' := by
  have hq := fun o p => hid_f (equal_same t (five k x s (.slice an ln cn) (.slice ai li ci)) (five k' x' s' (.slice an' ln' cn') (.slice ai' li' ci')) ((w.alloc o).alloc p) (VRep.keep (below_two w o p) _ _ hV) (VRep.keep (below_two w o p) _ _ hV'))
  clear hV hV'
  go_enter Try.func12, Try.ntmps12
  go_wp2_with fail
  go_fit (hq _ _).out
  rintro e w1 ⟨rfl, hb⟩
  go_wp2_with fail
  go_ret
  exact ⟨rfl, (below_two w _ _).trans (hb.mono (by simp only [World.size_alloc]; omega))⟩
/-- A list of values, in memory. -/
def ListAt (w : World) (v : Value) (ts : List Tr) : Prop := ∃ a c, v = .slice a ts.length c ∧ (ts = [] ∨ ∃ b o, a = some ⟨b, o, none⟩ ∧ b < w.heap.size ∧ VRepL w b o ts)
set_option maxHeartbeats 2000000 in
set_option maxRecDepth 100000 in
theorem values_same (a a' : Option Addr) (c c' : Nat) (ts : List Tr) (w : World) (hM : ts.length ≤ 9223372036854775806) (hL : Hid (ts = [] ∨ ∃ b o, a = some ⟨b, o, none⟩ ∧ b < w.heap.size ∧ VRepL w b o ts)) (hL' : Hid (ts = [] ∨ ∃ b o, a' = some ⟨b, o, none⟩ ∧ b < w.heap.size ∧ VRepL w b o ts)) :
    Calls Try.prog 16 #[.slice a ts.length c, .slice a' ts.length c'] w fun e w' => e = .returned (.bool true) ∧ Below w.heap.size w w' := by
  go_enter Try.func16, Try.ntmps16
  go_wp2_with fail
  go_loopw [5] (fun i wr => ∃ q : Nat, q ≤ ts.length ∧ i = .int .i64 q ∧ Below w.heap.size w wr) (fun i _ => ts.length - (intOf i).toNat)
  case atStart => exact ⟨0, Nat.zero_le _, rfl, Below.refl _ w⟩
  case round =>
    obtain ⟨q, hq, rfl, HB⟩ := hrel
    by_cases hlt : q < ts.length
    · have hd : decide ((q : Int) < (ts.length : Int)) = true := by simp; omega
      obtain ⟨u, hu⟩ : ∃ u, Hid (ts[q]? = some u) := ⟨_, List.getElem?_eq_getElem hlt⟩
      obtain ⟨b, o, rfl, hb, hV⟩ := hL.out.resolve_left (by intro e; subst e; simp at hlt)
      obtain ⟨cs, hC, hr⟩ := VRepL.at ts o q u hV hu.out
      obtain ⟨k2, x2, s2, an2, ln2, cn2, ai2, li2, ci2, rfl⟩ := vrep_five hr
      obtain ⟨b', o', rfl, hb', hV'⟩ := hL'.out.resolve_left (by intro e; subst e; simp at hlt)
      obtain ⟨cs', hC', hr'⟩ := VRepL.at ts o' q u hV' hu.out
      obtain ⟨k3, x3, s3, an3, ln3, cn3, ai3, li3, ci3, rfl⟩ := vrep_five hr'
      have p0 := stay HB (hC 0 _ rfl); have p1 := stay HB (hC 1 _ rfl); have p2 := stay HB (hC 2 _ rfl); have p3 := stay HB (hC 3 _ rfl); have p4 := stay HB (hC 4 _ rfl)
      have r0 := stay HB (hC' 0 _ rfl); have r1 := stay HB (hC' 1 _ rfl); have r2 := stay HB (hC' 2 _ rfl); have r3 := stay HB (hC' 3 _ rfl); have r4 := stay HB (hC' 4 _ rfl)
      simp only [Nat.add_zero] at p0 r0
      have hv1 := hid_f (VRep.keep HB _ _ hr)
      have hv2 := hid_f (VRep.keep HB _ _ hr')
      have i1 : (q : Int) < (ts.length : Int) := by omega
      have i2 : (0 : Int) ≤ (q : Int) := by omega
      clear hV hV' hC hC' hr hr'
      go_wp2_with fail
      refine wp_region_quiet (C := fun w' => Below wr.heap.size wr w') (by kernel_rfl) (by kernel_rfl) (below_drewN (Below.refl _ _) 1) ?_
      refine wpQuiet_step (fun K hK => ?_)
      go_simp
      refine ⟨_, fun _ _ => rfl, hK _ ?_⟩
      clear hK K
      refine wpQuiet_step (fun K hK => ?_)
      go_simp
      refine ⟨_, fun _ _ => rfl, hK _ ?_⟩
      clear hK K
      refine wpQuiet_step (fun K hK => ?_)
      go_simp
      refine ⟨_, fun _ _ => rfl, hK _ ?_⟩
      clear hK K
      refine wpQuiet_step (fun K hK => ?_)
      refine ⟨.agg #[.int .i64 k2, .int .i64 x2, .string s2, .slice an2 ln2 cn2, .slice ai2 li2 ci2], fun w' hw' => ?_, hK _ ?_⟩
      · have t0 := stay hw' p0
        have t1 := stay hw' p1
        have t2 := stay hw' p2
        have t3 := stay hw' p3
        have t4 := stay hw' p4
        go_simp
      clear hK K
      refine wpQuiet_step (fun K hK => ?_)
      go_simp
      refine ⟨_, fun _ _ => rfl, hK _ ?_⟩
      clear hK K
      refine wpQuiet_step (fun K hK => ?_)
      go_simp
      refine ⟨_, fun _ _ => rfl, hK _ ?_⟩
      clear hK K
      refine wpQuiet_step (fun K hK => ?_)
      go_simp
      refine ⟨_, fun _ _ => rfl, hK _ ?_⟩
      clear hK K
      refine wpQuiet_step (fun K hK => ?_)
      refine ⟨.agg #[.int .i64 k3, .int .i64 x3, .string s3, .slice an3 ln3 cn3, .slice ai3 li3 ci3], fun w' hw' => ?_, hK _ ?_⟩
      · have t0 := stay hw' r0
        have t1 := stay hw' r1
        have t2 := stay hw' r2
        have t3 := stay hw' r3
        have t4 := stay hw' r4
        go_simp
      clear hK K
      refine wpQuiet_step (fun K hK => ?_)
      refine ⟨.bool true, fun w' hw' => ?_, hK _ ?_⟩
      · go_simp
        refine (equal_law _ k2 x2 s2 an2 ln2 cn2 ai2 li2 ci2 k3 x3 s3 an3 ln3 cn3 ai3 li3 ci3 w' (VRep.keep hw' _ _ hv1.out) (VRep.keep hw' _ _ hv2.out)).mono ?_
        rintro e w'' ⟨rfl, hb⟩
        exact ⟨rfl, hw'.trans (hb.mono hw'.size)⟩
      clear hK K
      refine wpQuiet_step (fun K hK => ?_)
      go_simp
      refine ⟨_, fun _ _ => rfl, hK _ ?_⟩
      clear hK K
      refine wpQuiet_nil ?_
      intro Y hY
      have HB2 : Below w.heap.size w Y := HB.trans (hY.mono HB.size)
      clear hY p0 p1 p2 p3 p4 r0 r1 r2 r3 r4
      go_wp2_with fail
      go_roundw
      case rel => exact ⟨q + 1, by omega, by simp, HB2⟩
      case measure => simp [intOf]; omega
    · have hd : decide ((q : Int) < (ts.length : Int)) = false := by simp; omega
      go_wp2_with fail
      go_ret
      exact ⟨rfl, HB⟩
set_option maxHeartbeats 1000000 in
set_option maxRecDepth 100000 in
theorem number_lit (x : Int) (w : World) : Calls Try.prog 18 #[.int .i64 x] w fun e w' => e = .returned (.agg #[.int .i64 3, .int .i64 x, .string ⟨#[]⟩, .slice none 0 0, .slice none 0 0]) ∧ w' = w.alloc (.cells #[.int .i64 3, .int .i64 x, .string ⟨#[]⟩, .slice none 0 0, .slice none 0 0] 25) := by
  go_enter Try.func18, Try.ntmps18
  go_wp2_with fail
  refine bodyPost_ret (v := .agg #[.int .i64 3, .int .i64 x, .string ⟨#[]⟩, .slice none 0 0, .slice none 0 0]) (by simp [results, Try.results18, go_sem]) rfl ?_
  exact ⟨rfl, rfl⟩
/-- All of every value and path. -/
theorem all_any (n : Nat) (W0 : World) (t : Tr) (k x : Int) (s : ByteArray) (an : Option Addr) (ln cn : Nat) (ai : Option Addr) (li ci : Nat) (pv : Value) (l : List ByteArray) (w : World) (hn : SizeOf.sizeOf t ≤ n) (hW : Below W0.heap.size W0 w) (hV : VRep W0 t (five k x s (.slice an ln cn) (.slice ai li ci))) (hP : Reads W0 pv l) (hS : ∀ s ∈ l, s.size ≤ 9223372036854775806) (hl : l.length ≤ 9223372036854775806) (hb : partsT t ≤ 1000000) :
    Calls Try.prog 11 #[.agg #[.int .i64 k, .int .i64 x, .string s, .slice an ln cn, .slice ai li ci], pv] w (GPost W0 w.heap.size w 0 [] (allF n t l)) := by
  have hg := fun o => hid_f (gather_ok n W0 t k x s an ln cn ai li ci pv l (w.alloc o) (w.alloc o).heap.size 0 (.slice none 0 0) [] [] hn (hW.alloc hW.size o) hV hP hS hl (by rw [World.size_alloc]; have := hW.size; omega) (Nat.le_refl _) (World.ownsRow_nil _ _ _ _) (by unfold ItemsRep; rfl) (by omega))
  obtain ⟨a, c, rfl, -, -⟩ := hP
  clear hV
  go_enter Try.func11, Try.ntmps11
  go_wp2_with fail
  go_fit (hg _).out
  rintro e w1 ⟨fv, xs, rfl, h1, h2, h3⟩
  go_wp2_with fail
  go_ret
  exact ⟨fv, xs, rfl, ownsRow_lo h1 (by rw [World.size_alloc]; omega), h2, below_box h3⟩
end Go.Proofs.Ytelmdbfddmpaaaa
