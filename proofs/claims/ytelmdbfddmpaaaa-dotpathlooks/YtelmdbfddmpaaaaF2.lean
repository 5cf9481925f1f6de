import Derived.Test.YtelmdbfddmpaaaaF1
import Derived.Test.YtelmdbfddmpaaaaU1
import Derived.Deep.RegionHeld3
/-! The document's Get. -/
namespace Go.Proofs.Ytelmdbfddmpaaaa
open Go Go.RowKit

/-- What the document's Get answers: a value of what was handed in. -/
def GotR (W0 w : World) (r : Option Tr) (e : Ending) (w' : World) : Prop :=
  Below w.heap.size w w' ∧ ∃ (k x : Int) (s : ByteArray) (an : Option Addr) (ln cn : Nat) (ai : Option Addr) (li ci : Nat), e = .returned (.tuple #[.agg #[.int .i64 k, .int .i64 x, .string s, .slice an ln cn, .slice ai li ci], .bool r.isSome]) ∧ (∀ u, r = some u → VRep W0 u (five k x s (.slice an ln cn) (.slice ai li ci))) ∧ (r = none → VRep W0 (.node 0 0 ⟨#[]⟩ [] []) (five k x s (.slice an ln cn) (.slice ai li ci)))
theorem zero_rep (W : World) : VRep W (.node 0 0 ⟨#[]⟩ [] []) (five 0 0 ⟨#[]⟩ (.slice none 0 0) (.slice none 0 0)) := by
  unfold VRep
  exact ⟨.slice none 0 0, none, 0, rfl, ⟨none, 0, rfl, ⟨Nat.le_refl _, by omega⟩, .inl rfl⟩, ⟨Nat.le_refl _, by omega⟩, .inl rfl⟩
theorem below_two (w : World) (o p : Obj) : Below w.heap.size w ((w.alloc o).alloc p) := ((Below.refl _ w).alloc (Nat.le_refl _) o).alloc (by simp) p
theorem frozen_row {w : World} {B : Nat} {c0 c1 c2 c3 c4 : Value} {t : TypeId} (h : w.heap[B]? = some (.cells #[c0, c1, c2, c3, c4] t (0, 0))) (j : Nat) : w.frozen? ⟨B, j, none⟩ = false := (row_cells h).2.2.2.2.2 j

set_option maxHeartbeats 2000000 in
set_option maxRecDepth 100000 in
theorem rget_nil (W0 : World) (k x : Int) (tx : ByteArray) (an : Option Addr) (ln cn : Nat) (ai : Option Addr) (li ci : Nat) (t : Tr) (a : Option Addr) (c : Nat) (w : World) (hV : Hid (VRep W0 t (five k x tx (.slice an ln cn) (.slice ai li ci)))) :
    Calls Try.prog 8 #[.agg #[.int .i64 k, .int .i64 x, .string tx, .slice an ln cn, .slice ai li ci], .slice a 0 c] w (GotR W0 w (some t)) := by
  go_enter Try.func8, Try.ntmps8
  go_wp2_with fail
  refine bodyPost_ret (v := .tuple #[.agg #[.int .i64 k, .int .i64 x, .string tx, .slice an ln cn, .slice ai li ci], .bool true]) (by simp [results, Try.results8, go_sem]) rfl ?_
  exact ⟨below_two w _ _, _, _, _, _, _, _, _, _, _, rfl, (fun u hu => by cases hu; exact hV.out), (fun h => by cases h)⟩

set_option maxHeartbeats 4000000 in
set_option maxRecDepth 100000 in
theorem rget_one (W0 : World) (k x : Int) (tx : ByteArray) (an : Option Addr) (cn : Nat) (ns : List ByteArray) (ai : Option Addr) (ci : Nat) (its : List Tr) (b o c : Nat) (sg : ByteArray) (r : List ByteArray) (w : World) (hW : Below W0.heap.size W0 w) (hN : Hid (Reads W0 (.slice an ns.length cn) ns)) (hil : its.length ≤ 9223372036854775807) (hL : Hid (its = [] ∨ ∃ g q, ai = some ⟨g, q, none⟩ ∧ g < W0.heap.size ∧ VRepL W0 g q its))
    (hc : r.length + 1 ≤ c ∧ c ≤ 9223372036854775807) (hsg : sg.size ≤ 9223372036854775806) (hp : W0.cell? ⟨b, o, none⟩ = some (.string sg))
    (hrec : Hid (∀ (i : Nat) (u : Tr), its[i]? = some u → ∀ cs w', VRep W0 u cs → Below W0.heap.size W0 w' → Calls Try.prog 8 #[.agg cs.toArray, .slice (some ⟨b, if c = 1 then o else o + 1, none⟩) r.length (c - 1)] w' (GotR W0 w' (getT u r)))) :
    Calls Try.prog 8 #[.agg #[.int .i64 k, .int .i64 x, .string tx, .slice an ns.length cn, .slice ai its.length ci], .slice (some ⟨b, o, none⟩) (r.length + 1) c] w (GotR W0 w (getT (.node k x tx ns its) (sg :: r))) := by
  obtain ⟨z, hz⟩ : ∃ z, Hid (rplace k ns its.length sg = z) := ⟨_, rfl⟩
  obtain ⟨G, hG⟩ : ∃ G, Hid (getT (.node k x tx ns its) (sg :: r) = G) := ⟨_, rfl⟩
  rw [hG.out]
  have hpl := fun W (hB : Below W0.heap.size W0 W) => hid_f (rplace_any k x tx an cn ns ai its.length ci sg W (hid_f (hN.out.keep hB)) hil hsg)
  rw [hz.out] at hpl
  go_enter Try.func8, Try.ntmps8
  go_wp2_with fail
  have HB := below_two w (.cells #[.int .i64 k, .int .i64 x, .string tx, .slice an ns.length cn, .slice ai its.length ci] 25) (.cells #[.int .i64 0, .int .i64 0, .string ⟨#[]⟩, .slice none 0 0, .slice none 0 0] 25)
  have h0 := new1 w (.cells #[.int .i64 k, .int .i64 x, .string tx, .slice an ns.length cn, .slice ai its.length ci] 25) (.cells #[.int .i64 0, .int .i64 0, .string ⟨#[]⟩, .slice none 0 0, .slice none 0 0] 25)
  have h1 := new2 w (.cells #[.int .i64 k, .int .i64 x, .string tx, .slice an ns.length cn, .slice ai its.length ci] 25) (.cells #[.int .i64 0, .int .i64 0, .string ⟨#[]⟩, .slice none 0 0, .slice none 0 0] 25)
  generalize (w.alloc (.cells #[.int .i64 k, .int .i64 x, .string tx, .slice an ns.length cn, .slice ai its.length ci] 25)).alloc (.cells #[.int .i64 0, .int .i64 0, .string ⟨#[]⟩, .slice none 0 0, .slice none 0 0] 25) = X at HB h0 h1
  obtain ⟨y0, y1, y2, y3, y4, -⟩ := row_cells h0
  have HX : Below W0.heap.size W0 X := hW.trans (HB.mono hW.size)
  have c0 := stay HX hp
  have i0 : (0 : Int) < ((r.length + 1 : Nat) : Int) := by omega
  have i00 : (0 : Int) < (r.length : Int) + 1 := by omega
  refine wp_region_quiet (C := fun w' => Below X.heap.size X w') (by kernel_rfl) (by kernel_rfl) (below_drewN (Below.refl _ _) 1) ?_
  refine wpQuiet_step (fun K hK => ?_)
  refine ⟨.agg #[.int .i64 k, .int .i64 x, .string tx, .slice an ns.length cn, .slice ai its.length ci], fun w' hw' => ?_, hK _ ?_⟩
  · have t0 := stay hw' y0
    have t1 := stay hw' y1
    have t2 := stay hw' y2
    have t3 := stay hw' y3
    have t4 := stay hw' y4
    go_simp
  clear hK K
  refine wpQuiet_step (fun K hK => ?_)
  go_simp
  refine ⟨_, fun _ _ => rfl, hK _ ?_⟩
  clear hK K
  refine wpQuiet_step (fun K hK => ?_)
  go_simp
  refine ⟨_, fun _ _ => rfl, hK _ ?_⟩
  clear hK K
  refine wpQuiet_step (fun K hK => ?_)
  refine ⟨.string sg, fun w' hw' => ?_, hK _ ?_⟩
  · have t0 := stay hw' c0
    go_simp
  clear hK K
  refine wpQuiet_step (fun K hK => ?_)
  refine ⟨.int .i64 z, fun w' hw' => ?_, hK _ ?_⟩
  · go_simp
    refine ((hpl w' (HX.trans (hw'.mono HX.size))).out).mono ?_
    rintro e w'' ⟨rfl, hb⟩
    exact ⟨rfl, hw'.trans (hb.mono hw'.size)⟩
  clear hK K
  refine wpQuiet_step (fun K hK => ?_)
  go_simp
  refine ⟨_, fun _ _ => rfl, hK _ ?_⟩
  clear hK K
  refine wpQuiet_nil ?_
  intro Y hY
  have HB' : Below w.heap.size w Y := HB.trans (hY.mono HB.size)
  have HY : Below W0.heap.size W0 Y := HX.trans (hY.mono HX.size)
  have h0' := (hY.block _ (Array.getElem?_eq_some_iff.1 h0).1).trans h0
  have h1' := (hY.block _ (Array.getElem?_eq_some_iff.1 h1).1).trans h1
  clear hY HB HX h0 h1 y0 y1 y2 y3 y4 c0 hpl i0 i00
  obtain ⟨z0, z1, z2, z3, z4, zf⟩ := row_cells h1'
  have zf0 := zf 0; have zf1 := zf 1; have zf2 := zf 2; have zf3 := zf 3; have zf4 := zf 4
  clear zf
  cases hb : placeB k ns its.length sg
  · obtain rfl : z = -1 := by rw [← hz.out]; unfold rplace; rw [hb]; rfl
    obtain rfl : G = none := hG.out.symm.trans (getT_none (t := .node k x tx ns its) hb)
    go_wp2_with fail
    have hr5 := put5_cells h1' (.int .i64 0) (.int .i64 0) (.string ⟨#[]⟩) (.slice none 0 0) (.slice none 0 0)
    have r0 := hr5 0; have r1 := hr5 1; have r2 := hr5 2; have r3 := hr5 3; have r4 := hr5 4
    clear hr5
    refine bodyPost_ret (v := .tuple #[.agg #[.int .i64 0, .int .i64 0, .string ⟨#[]⟩, .slice none 0 0, .slice none 0 0], .bool false]) (by simp [results, Try.results8, go_sem, r0, r1, r2, r3, r4]) rfl ?_
    exact ⟨HB'.trans (put5_below (by omega) _ _ _ _ _), _, _, _, _, _, _, _, _, _, rfl, (fun u hu => by cases hu), fun _ => zero_rep W0⟩
  · obtain ⟨i, hi, him⟩ := placeB_true hb
    obtain rfl : z = i := by rw [← hz.out]; unfold rplace; rw [if_pos hb]; exact hi
    obtain ⟨u, hu⟩ : ∃ u, its[i]? = some u := ⟨_, List.getElem?_eq_getElem him⟩
    obtain ⟨g, q, rfl, hg, hV⟩ := hL.out.resolve_left (by intro e; subst e; simp at him)
    obtain ⟨cs, hC, hr⟩ := VRepL.at its q i u hV hu
    obtain ⟨k2, x2, s2, an2, ln2, cn2, ai2, li2, ci2, rfl⟩ := vrep_five hr
    have p0 := hC 0 _ rfl; have p1 := hC 1 _ rfl; have p2 := hC 2 _ rfl; have p3 := hC 3 _ rfl; have p4 := hC 4 _ rfl
    simp only [Nat.add_zero] at p0
    have hcall := hid_f (fun W (hB : Below W0.heap.size W0 W) => hrec.out i u hu _ W hr hB)
    obtain ⟨rr, hrr⟩ : ∃ rr, Hid (getT u r = rr) := ⟨_, rfl⟩
    rw [hrr.out] at hcall
    obtain rfl : rr = G := hrr.out.symm.trans ((getT_some (t := .node k x tx ns its) hb hi hu).symm.trans hG.out)
    clear hV hC hr hb hi hL hN hrec hz hG
    have i1 : (i : Int) < (its.length : Int) := by omega
    have i2 : (0 : Int) ≤ (i : Int) := by omega
    have i3 : decide ((i : Int) < 0) = false := by simp
    go_wp2_with fail
    replace HY : Below W0.heap.size W0 Y.drew := below_drew HY
    replace h0' : Y.drew.heap[w.heap.size]? = _ := h0'
    replace h1' : Y.drew.heap[w.heap.size + 1]? = _ := h1'
    replace HB' : Below w.heap.size w Y.drew := below_drew HB'
    clear z0 z1 z2 z3 z4 zf0 zf1 zf2 zf3 zf4
    generalize hZ : Y.drew = Z at HY h0' h1' HB'
    refine wp_region_noPanic ?_
    refine Until.wp_region_U (fun w' => Below W0.heap.size W0 w' ∧ w'.heap[w.heap.size]? = some (.cells #[.int .i64 k, .int .i64 x, .string tx, .slice an ns.length cn, .slice (some ⟨g, q, none⟩) its.length ci] 25 (0, 0))) (fun _ => True) 10 (by kernel_rfl) ?_
    rw [hZ]
    clear hZ
    refine Until.wpU_pure (i := 0) (oi := { dst := some 19, op := Op.fieldAddr 25 (Operand.tmp 2) 4, type := 0, pos := "ref.go:117", after := #[], guard := none }) (v := .pointer (some ⟨w.heap.size, 4, none⟩)) rfl (by kernel_rfl) (by kernel_rfl) (by kernel_rfl) (by kernel_rfl) (by kernel_rfl) (fun _ _ _ h => h) (⟨HY, h0'⟩) (fun _ => trivial) (by rfl) (by intro w'; go_simp) ?_
    try simp only [Act.put, List.setIfInBounds_toArray, List.set_cons_zero, List.set_cons_succ]
    refine Until.wpU_load0 (i := 1) (oi := { dst := some 20, op := Op.load 23 (Operand.tmp 19), type := 23, pos := "ref.go:117", after := #[{ on := 0, ground := Ground.data }], guard := none }) (v := .slice (some ⟨g, q, none⟩) its.length ci) rfl (by kernel_rfl) (by kernel_rfl) (by kernel_rfl) (by kernel_rfl) (by kernel_rfl) (fun _ _ _ h => h) (⟨HY, h0'⟩) (fun _ => trivial) (by rfl) (by intro w' hw'; obtain ⟨t0, t1, t2, t3, t4, -⟩ := row_cells hw'.2; clear hw'; go_simp) ?_
    try simp only [Act.put, List.setIfInBounds_toArray, List.set_cons_zero, List.set_cons_succ]
    refine Until.wpU_pure (i := 2) (oi := { dst := some 21, op := Op.move (Operand.tmp 6), type := 3, pos := "ref.go:117", after := #[], guard := none }) (v := .int .i64 i) rfl (by kernel_rfl) (by kernel_rfl) (by kernel_rfl) (by kernel_rfl) (by kernel_rfl) (fun _ _ _ h => h) (⟨HY, h0'⟩) (fun _ => trivial) (by rfl) (by intro w'; go_simp) ?_
    try simp only [Act.put, List.setIfInBounds_toArray, List.set_cons_zero, List.set_cons_succ]
    refine Until.wpU_pure (i := 3) (oi := { dst := some 22, op := Op.indexAddr 23 (Operand.tmp 20) (Operand.tmp 21), type := 0, pos := "ref.go:117", after := #[{ on := 1, ground := Ground.data }, { on := 2, ground := Ground.data }], guard := none }) (v := .pointer (some ⟨g, q + i * 5, none⟩)) rfl (by kernel_rfl) (by kernel_rfl) (by kernel_rfl) (by kernel_rfl) (by kernel_rfl) (fun _ _ _ h => h) (⟨HY, h0'⟩) (fun _ => trivial) (by rfl) (by intro w'; go_simp) ?_
    try simp only [Act.put, List.setIfInBounds_toArray, List.set_cons_zero, List.set_cons_succ]
    refine Until.wpU_load0 (i := 4) (oi := { dst := some 23, op := Op.load 25 (Operand.tmp 22), type := 25, pos := "ref.go:117", after := #[{ on := 3, ground := Ground.data }], guard := none }) (v := .agg #[.int .i64 k2, .int .i64 x2, .string s2, .slice an2 ln2 cn2, .slice ai2 li2 ci2]) rfl (by kernel_rfl) (by kernel_rfl) (by kernel_rfl) (by kernel_rfl) (by kernel_rfl) (fun _ _ _ h => h) (⟨HY, h0'⟩) (fun _ => trivial) (by rfl) (by intro w' hw'; have t0 := stay hw'.1 p0; have t1 := stay hw'.1 p1; have t2 := stay hw'.1 p2; have t3 := stay hw'.1 p3; have t4 := stay hw'.1 p4; clear hw'; go_simp) ?_
    try simp only [Act.put, List.setIfInBounds_toArray, List.set_cons_zero, List.set_cons_succ]
    refine Until.wpU_pure (i := 5) (oi := { dst := some 24, op := Op.move (Operand.tmp 1), type := 22, pos := "ref.go:117", after := #[], guard := none }) (v := .slice (some ⟨b, o, none⟩) (r.length + 1) c) rfl (by kernel_rfl) (by kernel_rfl) (by kernel_rfl) (by kernel_rfl) (by kernel_rfl) (fun _ _ _ h => h) (⟨HY, h0'⟩) (fun _ => trivial) (by rfl) (by intro w'; go_simp) ?_
    try simp only [Act.put, List.setIfInBounds_toArray, List.set_cons_zero, List.set_cons_succ]
    by_cases hc1 : c = 1
    · subst hc1
      obtain rfl : r = [] := List.eq_nil_of_length_eq_zero (by omega)
      replace hcall := hid_f hcall.out
      have hl1 : (1 : Int) ≤ (([] : List ByteArray).length : Int) + 1 := by simp
      refine Until.wpU_pure (i := 6) (oi := { dst := some 25, op := Op.slice 22 (Operand.tmp 24) (some (Operand.const (Value.int IntKind.i64 1))) none none, type := 22, pos := "ref.go:117", after := #[{ on := 5, ground := Ground.data }], guard := none }) (v := .slice (some ⟨b, o, none⟩) 0 0) rfl (by kernel_rfl) (by kernel_rfl) (by kernel_rfl) (by kernel_rfl) (by kernel_rfl) (fun _ _ _ h => h) (⟨HY, h0'⟩) (fun _ => trivial) (by rfl) (by intro w'; go_simp) ?_
      try simp only [Act.put, List.setIfInBounds_toArray, List.set_cons_zero, List.set_cons_succ]
      refine Until.wpU_ready (rs := [7]) (by kernel_rfl) (by simp) ?_
      refine (Until.AllU.cons (o := { dst := some 26, op := Op.call { callee := Callee.value (Operand.func 8), args := #[Operand.tmp 23, Operand.tmp 25], argTypes := #[25, 22] }, type := 28, pos := "ref.go:117", after := #[{ on := 4, ground := Ground.data }, { on := 6, ground := Ground.data }], guard := none }) rfl (fun K hK => ?_) Until.AllU.nil)
      go_simp
      refine (hcall.out Z HY).mono ?_
      rintro e Z2 ⟨hb2, k3, x3, s3, an3, ln3, cn3, ai3, li3, ci3, rfl, hfin⟩
      replace hfin := hid_f hfin
      have d0 := (hb2.block _ (Array.getElem?_eq_some_iff.1 h0').1).trans h0'
      have d1 := (hb2.block _ (Array.getElem?_eq_some_iff.1 h1').1).trans h1'
      have DY : Below W0.heap.size W0 Z2 := HY.trans (hb2.mono HY.size)
      have DB : Below w.heap.size w Z2 := HB'.trans (hb2.mono HB'.size)
      refine hK.out _ _ ⟨DY, d0⟩ (fun _ => trivial) ?_
      clear hK K hb2 HY h0' h1' HB'
      try simp only [Act.put, List.setIfInBounds_toArray, List.set_cons_zero, List.set_cons_succ]
      refine Until.wpU_pure (i := 8) (oi := { dst := some 27, op := Op.extract (Operand.tmp 26) 0, type := 25, pos := "ref.go:117", after := #[{ on := 7, ground := Ground.data }], guard := none }) (v := .agg #[.int .i64 k3, .int .i64 x3, .string s3, .slice an3 ln3 cn3, .slice ai3 li3 ci3]) rfl (by kernel_rfl) (by kernel_rfl) (by kernel_rfl) (by kernel_rfl) (by kernel_rfl) (fun _ _ _ h => h) (⟨DY, d0⟩) (fun _ => trivial) (by rfl) (by intro w'; go_simp) ?_
      try simp only [Act.put, List.setIfInBounds_toArray, List.set_cons_zero, List.set_cons_succ]
      refine Until.wpU_pure (i := 9) (oi := { dst := some 28, op := Op.extract (Operand.tmp 26) 1, type := 4, pos := "ref.go:117", after := #[{ on := 7, ground := Ground.data }], guard := none }) (v := .bool rr.isSome) rfl (by kernel_rfl) (by kernel_rfl) (by kernel_rfl) (by kernel_rfl) (by kernel_rfl) (fun _ _ _ h => h) (⟨DY, d0⟩) (fun _ => trivial) (by rfl) (by intro w'; go_simp) ?_
      try simp only [Act.put, List.setIfInBounds_toArray, List.set_cons_zero, List.set_cons_succ]
      obtain ⟨z0, z1, z2, z3, z4, zf⟩ := row_cells d1
      have zf0 := zf 0; have zf1 := zf 1; have zf2 := zf 2; have zf3 := zf 3; have zf4 := zf 4
      clear zf
      refine Until.wpU_ready (rs := [10]) (by kernel_rfl) (by simp) ?_
      refine (Until.AllU.cons (o := { dst := none, op := Op.store 25 (Operand.tmp 4) (Operand.tmp 27), type := 0, pos := "ref.go:117", after := #[{ on := 8, ground := Ground.data }, { on := 7, ground := Ground.chain }, { on := 0, ground := Ground.phase }, { on := 1, ground := Ground.phase }, { on := 2, ground := Ground.phase }, { on := 3, ground := Ground.phase }, { on := 4, ground := Ground.phase }, { on := 5, ground := Ground.phase }, { on := 6, ground := Ground.phase }, { on := 7, ground := Ground.phase }, { on := 8, ground := Ground.phase }, { on := 9, ground := Ground.phase }], guard := none }) rfl (fun K hK => ?_) Until.AllU.nil)
      go_simp
      have e0 := (put5_far (w := Z2) (g := w.heap.size + 1) (.int .i64 k3) (.int .i64 x3) (.string s3) (.slice an3 ln3 cn3) (.slice ai3 li3 ci3) (show w.heap.size ≠ w.heap.size + 1 by omega)).trans d0
      have EY : Below W0.heap.size W0 (put5 Z2 (w.heap.size + 1) (.int .i64 k3) (.int .i64 x3) (.string s3) (.slice an3 ln3 cn3) (.slice ai3 li3 ci3)) := DY.trans (put5_below (by have := hW.size; omega) _ _ _ _ _)
      refine hK.out _ _ ⟨EY, e0⟩ (fun _ => trivial) ?_
      clear hK K z0 z1 z2 z3 z4 zf0 zf1 zf2 zf3 zf4
      try simp only [Act.put, List.setIfInBounds_toArray, List.set_cons_zero, List.set_cons_succ]
      refine Until.wpU_ready (rs := [11]) (by kernel_rfl) (by simp) ?_
      refine (Until.AllU.cons (o := { dst := some 5, op := Op.assign (Operand.tmp 28), type := 4, pos := "ref.go:117", after := #[{ on := 9, ground := Ground.data }, { on := 10, ground := Ground.chain }, { on := 0, ground := Ground.phase }, { on := 1, ground := Ground.phase }, { on := 2, ground := Ground.phase }, { on := 3, ground := Ground.phase }, { on := 4, ground := Ground.phase }, { on := 5, ground := Ground.phase }, { on := 6, ground := Ground.phase }, { on := 7, ground := Ground.phase }, { on := 8, ground := Ground.phase }, { on := 9, ground := Ground.phase }, { on := 10, ground := Ground.phase }], guard := none }) rfl (fun K hK => ?_) Until.AllU.nil)
      go_simp
      refine hK.out _ _ ⟨EY, e0⟩ (fun _ => trivial) ?_
      clear hK K
      try simp only [Act.put, List.setIfInBounds_toArray, List.set_cons_zero, List.set_cons_succ]
      refine Until.wpU_done (by kernel_rfl) ?_ _
      refine NoPanic.normal ?_
      go_wp2_with fail
      have hr5 := put5_cells d1 (.int .i64 k3) (.int .i64 x3) (.string s3) (.slice an3 ln3 cn3) (.slice ai3 li3 ci3)
      have r0 := hr5 0; have r1 := hr5 1; have r2 := hr5 2; have r3 := hr5 3; have r4 := hr5 4
      clear hr5
      refine bodyPost_ret (v := .tuple #[.agg #[.int .i64 k3, .int .i64 x3, .string s3, .slice an3 ln3 cn3, .slice ai3 li3 ci3], .bool rr.isSome]) (by simp [results, Try.results8, go_sem, r0, r1, r2, r3, r4]) rfl ?_
      exact ⟨DB.trans (put5_below (by omega) _ _ _ _ _), _, _, _, _, _, _, _, _, _, rfl, hfin.out⟩
    · simp only [if_neg hc1] at hcall
      have hl1 : (1 : Int) ≤ (r.length : Int) + 1 := by omega
      have hl2 : ¬ ((r.length : Int) + 1 < 1) := by omega
      refine Until.wpU_pure (i := 6) (oi := { dst := some 25, op := Op.slice 22 (Operand.tmp 24) (some (Operand.const (Value.int IntKind.i64 1))) none none, type := 22, pos := "ref.go:117", after := #[{ on := 5, ground := Ground.data }], guard := none }) (v := .slice (some ⟨b, o + 1, none⟩) r.length (c - 1)) rfl (by kernel_rfl) (by kernel_rfl) (by kernel_rfl) (by kernel_rfl) (by kernel_rfl) (fun _ _ _ h => h) (⟨HY, h0'⟩) (fun _ => trivial) (by rfl) (by intro w'; go_simp) ?_
      try simp only [Act.put, List.setIfInBounds_toArray, List.set_cons_zero, List.set_cons_succ]
      refine Until.wpU_ready (rs := [7]) (by kernel_rfl) (by simp) ?_
      refine (Until.AllU.cons (o := { dst := some 26, op := Op.call { callee := Callee.value (Operand.func 8), args := #[Operand.tmp 23, Operand.tmp 25], argTypes := #[25, 22] }, type := 28, pos := "ref.go:117", after := #[{ on := 4, ground := Ground.data }, { on := 6, ground := Ground.data }], guard := none }) rfl (fun K hK => ?_) Until.AllU.nil)
      go_simp
      refine (hcall.out Z HY).mono ?_
      rintro e Z2 ⟨hb2, k3, x3, s3, an3, ln3, cn3, ai3, li3, ci3, rfl, hfin⟩
      replace hfin := hid_f hfin
      have d0 := (hb2.block _ (Array.getElem?_eq_some_iff.1 h0').1).trans h0'
      have d1 := (hb2.block _ (Array.getElem?_eq_some_iff.1 h1').1).trans h1'
      have DY : Below W0.heap.size W0 Z2 := HY.trans (hb2.mono HY.size)
      have DB : Below w.heap.size w Z2 := HB'.trans (hb2.mono HB'.size)
      refine hK.out _ _ ⟨DY, d0⟩ (fun _ => trivial) ?_
      clear hK K hb2 HY h0' h1' HB'
      try simp only [Act.put, List.setIfInBounds_toArray, List.set_cons_zero, List.set_cons_succ]
      refine Until.wpU_pure (i := 8) (oi := { dst := some 27, op := Op.extract (Operand.tmp 26) 0, type := 25, pos := "ref.go:117", after := #[{ on := 7, ground := Ground.data }], guard := none }) (v := .agg #[.int .i64 k3, .int .i64 x3, .string s3, .slice an3 ln3 cn3, .slice ai3 li3 ci3]) rfl (by kernel_rfl) (by kernel_rfl) (by kernel_rfl) (by kernel_rfl) (by kernel_rfl) (fun _ _ _ h => h) (⟨DY, d0⟩) (fun _ => trivial) (by rfl) (by intro w'; go_simp) ?_
      try simp only [Act.put, List.setIfInBounds_toArray, List.set_cons_zero, List.set_cons_succ]
      refine Until.wpU_pure (i := 9) (oi := { dst := some 28, op := Op.extract (Operand.tmp 26) 1, type := 4, pos := "ref.go:117", after := #[{ on := 7, ground := Ground.data }], guard := none }) (v := .bool rr.isSome) rfl (by kernel_rfl) (by kernel_rfl) (by kernel_rfl) (by kernel_rfl) (by kernel_rfl) (fun _ _ _ h => h) (⟨DY, d0⟩) (fun _ => trivial) (by rfl) (by intro w'; go_simp) ?_
      try simp only [Act.put, List.setIfInBounds_toArray, List.set_cons_zero, List.set_cons_succ]
      obtain ⟨z0, z1, z2, z3, z4, zf⟩ := row_cells d1
      have zf0 := zf 0; have zf1 := zf 1; have zf2 := zf 2; have zf3 := zf 3; have zf4 := zf 4
      clear zf
      refine Until.wpU_ready (rs := [10]) (by kernel_rfl) (by simp) ?_
      refine (Until.AllU.cons (o := { dst := none, op := Op.store 25 (Operand.tmp 4) (Operand.tmp 27), type := 0, pos := "ref.go:117", after := #[{ on := 8, ground := Ground.data }, { on := 7, ground := Ground.chain }, { on := 0, ground := Ground.phase }, { on := 1, ground := Ground.phase }, { on := 2, ground := Ground.phase }, { on := 3, ground := Ground.phase }, { on := 4, ground := Ground.phase }, { on := 5, ground := Ground.phase }, { on := 6, ground := Ground.phase }, { on := 7, ground := Ground.phase }, { on := 8, ground := Ground.phase }, { on := 9, ground := Ground.phase }], guard := none }) rfl (fun K hK => ?_) Until.AllU.nil)
      go_simp
      have e0 := (put5_far (w := Z2) (g := w.heap.size + 1) (.int .i64 k3) (.int .i64 x3) (.string s3) (.slice an3 ln3 cn3) (.slice ai3 li3 ci3) (show w.heap.size ≠ w.heap.size + 1 by omega)).trans d0
      have EY : Below W0.heap.size W0 (put5 Z2 (w.heap.size + 1) (.int .i64 k3) (.int .i64 x3) (.string s3) (.slice an3 ln3 cn3) (.slice ai3 li3 ci3)) := DY.trans (put5_below (by have := hW.size; omega) _ _ _ _ _)
      refine hK.out _ _ ⟨EY, e0⟩ (fun _ => trivial) ?_
      clear hK K z0 z1 z2 z3 z4 zf0 zf1 zf2 zf3 zf4
      try simp only [Act.put, List.setIfInBounds_toArray, List.set_cons_zero, List.set_cons_succ]
      refine Until.wpU_ready (rs := [11]) (by kernel_rfl) (by simp) ?_
      refine (Until.AllU.cons (o := { dst := some 5, op := Op.assign (Operand.tmp 28), type := 4, pos := "ref.go:117", after := #[{ on := 9, ground := Ground.data }, { on := 10, ground := Ground.chain }, { on := 0, ground := Ground.phase }, { on := 1, ground := Ground.phase }, { on := 2, ground := Ground.phase }, { on := 3, ground := Ground.phase }, { on := 4, ground := Ground.phase }, { on := 5, ground := Ground.phase }, { on := 6, ground := Ground.phase }, { on := 7, ground := Ground.phase }, { on := 8, ground := Ground.phase }, { on := 9, ground := Ground.phase }, { on := 10, ground := Ground.phase }], guard := none }) rfl (fun K hK => ?_) Until.AllU.nil)
      go_simp
      refine hK.out _ _ ⟨EY, e0⟩ (fun _ => trivial) ?_
      clear hK K
      try simp only [Act.put, List.setIfInBounds_toArray, List.set_cons_zero, List.set_cons_succ]
      refine Until.wpU_done (by kernel_rfl) ?_ _
      refine NoPanic.normal ?_
      go_wp2_with fail
      have hr5 := put5_cells d1 (.int .i64 k3) (.int .i64 x3) (.string s3) (.slice an3 ln3 cn3) (.slice ai3 li3 ci3)
      have r0 := hr5 0; have r1 := hr5 1; have r2 := hr5 2; have r3 := hr5 3; have r4 := hr5 4
      clear hr5
      refine bodyPost_ret (v := .tuple #[.agg #[.int .i64 k3, .int .i64 x3, .string s3, .slice an3 ln3 cn3, .slice ai3 li3 ci3], .bool rr.isSome]) (by simp [results, Try.results8, go_sem, r0, r1, r2, r3, r4]) rfl ?_
      exact ⟨DB.trans (put5_below (by omega) _ _ _ _ _), _, _, _, _, _, _, _, _, _, rfl, hfin.out⟩

/-- The document's Get of every value and path. -/
theorem rget_any (W0 : World) : (l : List ByteArray) → (t : Tr) → (cs : List Value) → (pv : Value) → (w : World) → Below W0.heap.size W0 w → VRep W0 t cs → Reads W0 pv l → (∀ s ∈ l, s.size ≤ 9223372036854775806) → Calls Try.prog 8 #[.agg cs.toArray, pv] w (GotR W0 w (getT t l))
  | [], t, cs, pv, w, hW, hV, hP, _ => by
    obtain ⟨a, c, rfl, _, _⟩ := hP
    obtain ⟨k, x, s, an, ln, cn, ai, li, ci, rfl⟩ := vrep_five hV
    have e : getT t [] = some t := by cases t; rfl
    rw [e]
    exact rget_nil W0 k x s an ln cn ai li ci t a c w (hid_f hV)
  | sg :: r, .node k x s ns its, cs, pv, w, hW, hV, hP, hS => by
    obtain ⟨a, c, rfl, hc, hA⟩ := hP
    obtain ⟨b, o, rfl, hb, hA⟩ := hA.resolve_left (by simp)
    have hV' := hV
    unfold VRep at hV'
    obtain ⟨nm, ai, ci, rfl, hn, hci, hI⟩ := hV'
    obtain ⟨an, cn, rfl, -, -⟩ := id hn
    simp only [List.length_cons] at hc
    refine rget_one W0 k x s an cn ns ai ci its b o c sg r w hW (hid_f hn) (by omega) (hid_f hI) hc (hS sg (by simp)) (by simpa using hA 0 sg rfl) (hid_f (fun i u hu cs' w' h1 h2 => ?_))
    refine rget_any W0 r u cs' _ w' h2 h1 ⟨_, c - 1, rfl, ⟨by omega, by omega⟩, ?_⟩ (fun s hs => hS s (by simp [hs]))
    by_cases hc1 : c = 1
    · exact .inl (List.eq_nil_of_length_eq_zero (by omega))
    · refine .inr ⟨b, o + 1, by rw [if_neg hc1], hb, fun j s hj => ?_⟩
      have := hA (j + 1) s (by simpa using hj)
      rwa [show o + (j + 1) = o + 1 + j by omega] at this
end Go.Proofs.Ytelmdbfddmpaaaa
