import Derived.Test.YtmlbofbnklmedaaT9
/-! The document's Unset: further down a list. -/
namespace Go.Proofs.Ytmlbofbnklmedaa
open Go Go.RowKit

set_option maxHeartbeats 16000000 in
set_option maxRecDepth 100000 in
theorem runset_more5 (x : Int) (tx : ByteArray) (an : Option Addr) (cn : Nat) (ns : List ByteArray) (ai : Option Addr) (ci : Nat) (its : List Tr) (b o c : Nat) (s : ByteArray) (r : List ByteArray) (w0 w : World) (h0 : Below w0.heap.size w0 w) (hs : s.size ≤ 9223372036854775806) (hp : w0.cell? ⟨b, o, none⟩ = some (.string s)) (hV : Hid (VRep w0 (.node 5 x tx ns its) (five 5 x tx (.slice an ns.length cn) (.slice ai its.length ci)))) (hN : Hid (Reads w0 (.slice an ns.length cn) ns)) (hil : its.length ≤ 9223372036854775807) (hb80 : (its.length + 1) * 80 ≤ 140737488355328) (i : Nat) (u : Tr) (hu : Hid (its[i]? = some u)) (hpl : Hid (rplace 5 ns its.length s = (i : Int))) (him : Hid (i < (keepIts 5 ns its).length)) (hc : r.length + 1 ≤ c ∧ c ≤ 9223372036854775807) (o2 : Nat) (ho2 : Hid ((if c = 1 then o else o + 1) = o2)) (hr0 : 0 < r.length) (ub : Bool) (R : Tr) (hrec : Hid (∀ cs W, VRep w0 u cs → Below w0.heap.size w0 W → Calls Try.prog 21 #[.agg cs.toArray, .slice (some ⟨b, o2, none⟩) r.length (c - 1)] W (RU w0 W ub R))) :
    Calls Try.prog 21 #[.agg #[.int .i64 5, .int .i64 x, .string tx, .slice an ns.length cn, .slice ai its.length ci], .slice (some ⟨b, o, none⟩) (r.length + 1) c] w (RU w0 w ub (if ub = true then withT 5 ns its s i R else .node 5 x tx ns its)) := by
  obtain ⟨Q, hQ⟩ : ∃ Q, Hid ((if ub = true then withT 5 ns its s i R else .node 5 x tx ns its) = Q) := ⟨_, hid_e rfl⟩
  rw [hQ.out]
  have hQ2 : Hid (ub = true → .node 5 0 ⟨#[]⟩ (keepNs 5 ns its) ((keepIts 5 ns its).set i R) = Q) := fun h => by rw [← hQ.out, if_pos h]; unfold withT; rw [if_pos him.out]
  have hQ3 : Hid (ub = false → .node 5 x tx ns its = Q) := fun h => by rw [← hQ.out, if_neg (by rw [h]; decide)]
  clear hQ
  have hlt : i < its.length := (List.getElem?_eq_some_iff.1 hu.out).1
  obtain ⟨g2, q2, rfl, hlt2, hVL⟩ : ∃ g q, ai = some ⟨g, q, none⟩ ∧ g < w0.heap.size ∧ VRepL w0 g q its := by
    have h := hV.out
    unfold VRep at h
    obtain ⟨nm, a9, c9, e, h1, h2, h3⟩ := h
    simp only [five, List.cons.injEq, Value.slice.injEq, true_and, and_true] at e
    obtain ⟨rfl, rfl, rfl⟩ := e
    exact h3.resolve_left (by intro e; subst e; simp at hlt)
  obtain ⟨cs, hia, hr⟩ := VRepL.at its q2 i u hVL hu.out
  obtain ⟨k2, x2, s2, an2, ln2, cn2, ai2, li2, ci2, rfl⟩ := vrep_five hr
  replace hia := hid_e hia
  have j0 : (0 : Int) ≤ (i : Int) := by omega
  have j1 : (i : Int) < (its.length : Int) := by omega
  have j2 : ¬ ((i : Int) < 0) := by omega
  have hcall := hid_e (fun W (hW : Below w0.heap.size w0 W) => hrec.out _ W hr hW)
  clear hrec hr hVL
  have hgt1 : (1 : Int) < ((r.length : Int) + 1) := by omega
  have hgt2 : (1 : Int) < ((r.length + 1 : Nat) : Int) := by omega
  have hT := an_new w #[.int .i64 5, .int .i64 x, .string tx, .slice an ns.length cn, .slice (some ⟨g2, q2, none⟩) its.length ci]
  have hne : ((((r.length + 1 : Nat) : Int)) == 0) = false := by simp <;> omega
  have hne2 : (((r.length : Int) + 1) == 0) = false := by simp <;> omega
  have i0 : (0 : Int) < ((r.length + 1 : Nat) : Int) := by omega
  have i00 : (0 : Int) < (r.length : Int) + 1 := by omega
  go_enter Try.func21, Try.ntmps21
  go_upto_region 1 with fail
  generalize (w.alloc (.cells #[.int .i64 5, .int .i64 x, .string tx, .slice an ns.length cn, .slice (some ⟨g2, q2, none⟩) its.length ci] 25)).alloc (.cells #[.int .i64 0, .int .i64 0, .string ⟨#[]⟩, .slice none 0 0, .slice none 0 0] 25) = X0 at hT ⊢
  have c0 : X0.cell? ⟨b, o, none⟩ = some (.string s) := ((h0.trans (hT.below.mono h0.size)).cell (cell_lt hp)).trans hp
  go_upto_region 3 with fail
  replace hT := hT.drew
  replace c0 : X0.drew.cell? ⟨b, o, none⟩ = some (.string s) := c0
  generalize hX : X0.drew = X9 at hT c0
  refine wp_region_noPanic ?_
  refine Until.wp_region_U (fun w' => An w #[.int .i64 5, .int .i64 x, .string tx, .slice an ns.length cn, .slice (some ⟨g2, q2, none⟩) its.length ci] w' ∧ w'.cell? ⟨b, o, none⟩ = some (.string s)) (fun _ => True) 100 (by kernel_rfl) ?_
  rw [hX]
  clear hX
  refine Until.wpU_load0 (i := 0) (oi := { dst := some 14, op := Op.load 25 (Operand.tmp 2), type := 25, pos := "ref.go:192", after := #[], guard := none }) (v := .agg #[.int .i64 5, .int .i64 x, .string tx, .slice an ns.length cn, .slice (some ⟨g2, q2, none⟩) its.length ci]) rfl (by kernel_rfl) (by kernel_rfl) (by kernel_rfl) (by kernel_rfl) (by kernel_rfl) (fun _ _ _ h => h) ⟨hT, c0⟩ (fun _ => trivial) (by rfl) (by intro w' hw'; obtain ⟨t0, t1, t2, t3, t4, -⟩ := row_cells hw'.1.one; clear hw'; go_simp) ?_
  try simp only [Act.put, List.setIfInBounds_toArray, List.set_cons_zero, List.set_cons_succ]
  refine Until.wpU_pure (i := 1) (oi := { dst := some 15, op := Op.move (Operand.tmp 1), type := 22, pos := "ref.go:192", after := #[], guard := none }) (v := .slice (some ⟨b, o, none⟩) (r.length + 1) c) rfl (by kernel_rfl) (by kernel_rfl) (by kernel_rfl) (by kernel_rfl) (by kernel_rfl) (fun _ _ _ h => h) ⟨hT, c0⟩ (fun _ => trivial) (by rfl) (by intro w'; go_simp) ?_
  try simp only [Act.put, List.setIfInBounds_toArray, List.set_cons_zero, List.set_cons_succ]
  refine Until.wpU_pure (i := 2) (oi := { dst := some 16, op := Op.indexAddr 22 (Operand.tmp 15) (Operand.const (Value.int IntKind.i64 0)), type := 0, pos := "ref.go:192", after := #[{ on := 1, ground := Ground.data }], guard := none }) (v := .pointer (some ⟨b, o, none⟩)) rfl (by kernel_rfl) (by kernel_rfl) (by kernel_rfl) (by kernel_rfl) (by kernel_rfl) (fun _ _ _ h => h) ⟨hT, c0⟩ (fun _ => trivial) (by rfl) (by intro w'; go_simp) ?_
  try simp only [Act.put, List.setIfInBounds_toArray, List.set_cons_zero, List.set_cons_succ]
  refine Until.wpU_load0 (i := 3) (oi := { dst := some 17, op := Op.load 9 (Operand.tmp 16), type := 9, pos := "ref.go:192", after := #[{ on := 2, ground := Ground.data }], guard := none }) (v := .string s) rfl (by kernel_rfl) (by kernel_rfl) (by kernel_rfl) (by kernel_rfl) (by kernel_rfl) (fun _ _ _ h => h) ⟨hT, c0⟩ (fun _ => trivial) (by rfl) (by intro w' hw'; have t0 := hw'.2; clear hw'; go_simp) ?_
  try simp only [Act.put, List.setIfInBounds_toArray, List.set_cons_zero, List.set_cons_succ]
  refine Until.wpU_ready (rs := [4]) (by kernel_rfl) (by simp) ?_
  refine (Until.AllU.cons (o := { dst := some 18, op := Op.call { callee := Callee.value (Operand.func 36), args := #[Operand.tmp 14, Operand.tmp 17], argTypes := #[25, 9] }, type := 3, pos := "ref.go:192", after := #[{ on := 0, ground := Ground.data }, { on := 3, ground := Ground.data }], guard := none }) rfl (fun K hK => ?_) Until.AllU.nil)
  go_simp
  refine (rplace_any 5 x tx an cn ns (some ⟨g2, q2, none⟩) its.length ci s _ (hid_f (hN.out.keep (h0.trans (hT.below.mono h0.size)))) hil hs).mono ?_
  rintro e X1 ⟨rfl, hb⟩
  rw [hpl.out]
  replace hT := hT.keep hb
  replace c0 := (hb.cell (cell_lt c0)).trans c0
  clear hb
  refine hK.out _ _ ⟨hT, c0⟩ (fun _ => trivial) ?_
  clear hK K
  try simp only [Act.put, List.setIfInBounds_toArray, List.set_cons_zero, List.set_cons_succ]
  refine Until.wpU_ready (rs := [5]) (by kernel_rfl) (by simp) ?_
  refine (Until.AllU.cons (o := { dst := some 6, op := Op.assign (Operand.tmp 18), type := 3, pos := "ref.go:192", after := #[{ on := 4, ground := Ground.data }, { on := 4, ground := Ground.chain }, { on := 0, ground := Ground.phase }, { on := 1, ground := Ground.phase }, { on := 2, ground := Ground.phase }, { on := 3, ground := Ground.phase }, { on := 4, ground := Ground.phase }], guard := none }) rfl (fun K hK => ?_) Until.AllU.nil)
  go_simp
  refine hK.out _ _ ⟨hT, c0⟩ (fun _ => trivial) ?_
  clear hK K
  try simp only [Act.put, List.setIfInBounds_toArray, List.set_cons_zero, List.set_cons_succ]
  refine Until.wpU_done (by kernel_rfl) ?_ _
  refine NoPanic.normal ?_
  have hBc := h0.trans (hT.below.mono h0.size)
  obtain ⟨xs, hIt, hca⟩ := ranew_any 5 x tx ns its _ (.inl rfl) hb80 w0 X1 hBc hV.out
  obtain ⟨KN, hKN⟩ : ∃ l, Hid (keepNs 5 ns its = l) := ⟨_, hid_e rfl⟩
  obtain ⟨KI, hKI⟩ : ∃ l, Hid (keepIts 5 ns its = l) := ⟨_, hid_e rfl⟩
  rw [hKN.out, hKI.out] at hca hQ2
  rw [hKI.out] at hIt him
  clear hKN hKI
  replace hIt := hid_e hIt
  replace hca := hid_e hca
  have hi2b : (i : Int) < (KI.length : Int) := by have := him.out; omega
  obtain ⟨y0, y1, y2, y3, y4, -⟩ := row_cells hT.one
  go_wp2_with fail
  clear y0 y1 y2 y3 y4
  go_fit hca.out
  rintro e Y2 ⟨nv, gi, cig, rfl, hb2, hn14, hi14⟩
  obtain ⟨a4, c4, rfl⟩ := ownsRow_slice hn14
  have hgi := ownsRow_ge hi14 (g := gi) rfl
  have hltT := hT.lt
  have hb4 : Below X1.heap.size X1 (Y2.alloc (.cells #[.int .i64 5, .int .i64 0, .string ⟨#[]⟩, .slice a4 KN.length c4, .slice (some ⟨gi, 0, none⟩) KI.length cig] 25)) := hb2.alloc hb2.size _
  have n14 := heap_alloc_new Y2 (.cells #[.int .i64 5, .int .i64 0, .string ⟨#[]⟩, .slice a4 KN.length c4, .slice (some ⟨gi, 0, none⟩) KI.length cig] 25)
  replace hT := hT.keep hb4
  replace c0 := (hb4.cell (cell_lt c0)).trans c0
  replace hn14 := hid_e (hn14.alloc (.cells #[.int .i64 5, .int .i64 0, .string ⟨#[]⟩, .slice a4 KN.length c4, .slice (some ⟨gi, 0, none⟩) KI.length cig] 25))
  replace hi14 := hid_e (hi14.alloc (.cells #[.int .i64 5, .int .i64 0, .string ⟨#[]⟩, .slice a4 KN.length c4, .slice (some ⟨gi, 0, none⟩) KI.length cig] 25))
  have hz4 : (Y2.alloc (.cells #[.int .i64 5, .int .i64 0, .string ⟨#[]⟩, .slice a4 KN.length c4, .slice (some ⟨gi, 0, none⟩) KI.length cig] 25)).heap.size = Y2.heap.size + 1 := World.size_alloc _ _
  clear hca hb2
  go_upto_region 7 with fail
  generalize Y2.alloc (.cells #[.int .i64 5, .int .i64 0, .string ⟨#[]⟩, .slice a4 KN.length c4, .slice (some ⟨gi, 0, none⟩) KI.length cig] 25) = W4 at hb4 n14 hT c0 hn14 hi14 hz4 ⊢
  obtain ⟨g4, hq9⟩ : ∃ g, Y2.heap.size = g := ⟨_, rfl⟩
  rw [hq9] at n14 hgi hz4
  rw [hq9]
  clear hq9
  have hg4 : w.heap.size + 2 ≤ g4 := by omega
  go_upto_region 8 with fail
  go_cut [8, 9] (fun pv bv wx => ∃ (g8 : Nat) (k3 x3 : Int) (s3 : ByteArray) (an3 : Option Addr) (ln3 cn3 : Nat) (ai3 : Option Addr) (li3 ci3 : Nat), pv = .pointer (some ⟨g8, 0, none⟩) ∧ bv = .bool ub ∧ Hid (UHit w0 w X1 #[.int .i64 5, .int .i64 x, .string tx, .slice an ns.length cn, .slice (some ⟨g2, q2, none⟩) its.length ci] g4 #[.int .i64 5, .int .i64 0, .string ⟨#[]⟩, .slice a4 KN.length c4, .slice (some ⟨gi, 0, none⟩) KI.length cig] (.slice a4 KN.length c4) KN gi KI.length cig xs R g8 #[.int .i64 k3, .int .i64 x3, .string s3, .slice an3 ln3 cn3, .slice ai3 li3 ci3] wx))
  case first =>
    replace hT := hT.drew
    replace c0 : W4.drew.cell? ⟨b, o, none⟩ = some (.string s) := c0
    replace n14 : W4.drew.heap[g4]? = some (.cells #[.int .i64 5, .int .i64 0, .string ⟨#[]⟩, .slice a4 KN.length c4, .slice (some ⟨gi, 0, none⟩) KI.length cig] 25 (0, 0)) := n14
    replace hn14 : Hid (W4.drew.ownsRow _ _ _ _ _ _) := hn14
    replace hi14 : Hid (W4.drew.ownsRow _ _ _ _ _ _) := hi14
    replace hb4 : Below X1.heap.size X1 W4.drew := hb4.trans ⟨rfl, rfl, rfl, Nat.le_refl _, fun _ _ => rfl⟩
    replace hz4 : W4.drew.heap.size = g4 + 1 := hz4
    generalize hX9 : W4.drew = X8 at hT c0 n14 hn14 hi14 hb4 hz4
    refine wp_region_noPanic ?_
    refine Until.wp_region_U (fun w' => An w #[.int .i64 5, .int .i64 x, .string tx, .slice an ns.length cn, .slice (some ⟨g2, q2, none⟩) its.length ci] w' ∧ w'.cell? ⟨b, o, none⟩ = some (.string s)) (fun _ => True) 100 (by kernel_rfl) ?_
    rw [hX9]
    clear hX9
    replace hz4 := hid_e hz4
    refine Until.wpU_pure (i := 0) (oi := { dst := some 28, op := Op.fieldAddr 25 (Operand.tmp 2) 4, type := 0, pos := "ref.go:198", after := #[], guard := none }) (v := .pointer (some ⟨w.heap.size, 4, none⟩)) rfl (by kernel_rfl) (by kernel_rfl) (by kernel_rfl) (by kernel_rfl) (by kernel_rfl) (fun _ _ _ h => h) ⟨hT, c0⟩ (fun _ => trivial) (by rfl) (by intro w'; go_simp) ?_
    try simp only [Act.put, List.setIfInBounds_toArray, List.set_cons_zero, List.set_cons_succ]
    refine Until.wpU_load0 (i := 1) (oi := { dst := some 29, op := Op.load 23 (Operand.tmp 28), type := 23, pos := "ref.go:198", after := #[{ on := 0, ground := Ground.data }], guard := none }) (v := .slice (some ⟨g2, q2, none⟩) its.length ci) rfl (by kernel_rfl) (by kernel_rfl) (by kernel_rfl) (by kernel_rfl) (by kernel_rfl) (fun _ _ _ h => h) ⟨hT, c0⟩ (fun _ => trivial) (by rfl) (by intro w' hw'; obtain ⟨t0, t1, t2, t3, t4, -⟩ := row_cells hw'.1.one; clear hw'; go_simp) ?_
    try simp only [Act.put, List.setIfInBounds_toArray, List.set_cons_zero, List.set_cons_succ]
    refine Until.wpU_pure (i := 2) (oi := { dst := some 30, op := Op.move (Operand.tmp 6), type := 3, pos := "ref.go:198", after := #[], guard := none }) (v := .int .i64 (i : Int)) rfl (by kernel_rfl) (by kernel_rfl) (by kernel_rfl) (by kernel_rfl) (by kernel_rfl) (fun _ _ _ h => h) ⟨hT, c0⟩ (fun _ => trivial) (by rfl) (by intro w'; go_simp) ?_
    try simp only [Act.put, List.setIfInBounds_toArray, List.set_cons_zero, List.set_cons_succ]
    refine Until.wpU_pure (i := 3) (oi := { dst := some 31, op := Op.indexAddr 23 (Operand.tmp 29) (Operand.tmp 30), type := 0, pos := "ref.go:198", after := #[{ on := 1, ground := Ground.data }, { on := 2, ground := Ground.data }], guard := none }) (v := .pointer (some ⟨g2, q2 + i * 5, none⟩)) rfl (by kernel_rfl) (by kernel_rfl) (by kernel_rfl) (by kernel_rfl) (by kernel_rfl) (fun _ _ _ h => h) ⟨hT, c0⟩ (fun _ => trivial) (by rfl) (by intro w'; go_simp) ?_
    try simp only [Act.put, List.setIfInBounds_toArray, List.set_cons_zero, List.set_cons_succ]
    refine Until.wpU_load0 (i := 4) (oi := { dst := some 32, op := Op.load 25 (Operand.tmp 31), type := 25, pos := "ref.go:198", after := #[{ on := 3, ground := Ground.data }], guard := none }) (v := .agg #[.int .i64 k2, .int .i64 x2, .string s2, .slice an2 ln2 cn2, .slice ai2 li2 ci2]) rfl (by kernel_rfl) (by kernel_rfl) (by kernel_rfl) (by kernel_rfl) (by kernel_rfl) (fun _ _ _ h => h) ⟨hT, c0⟩ (fun _ => trivial) (by rfl) (by
      intro w' hw'
      have hBw := h0.trans (hw'.1.below.mono h0.size)
      have t0 := stay hBw (hia.out 0 _ rfl)
      have t1 := stay hBw (hia.out 1 _ rfl)
      have t2 := stay hBw (hia.out 2 _ rfl)
      have t3 := stay hBw (hia.out 3 _ rfl)
      have t4 := stay hBw (hia.out 4 _ rfl)
      simp only [Nat.add_zero] at t0
      clear hw' hBw
      go_simp) ?_
    try simp only [Act.put, List.setIfInBounds_toArray, List.set_cons_zero, List.set_cons_succ]
    refine Until.wpU_pure (i := 5) (oi := { dst := some 33, op := Op.move (Operand.tmp 1), type := 22, pos := "ref.go:198", after := #[], guard := none }) (v := .slice (some ⟨b, o, none⟩) (r.length + 1) c) rfl (by kernel_rfl) (by kernel_rfl) (by kernel_rfl) (by kernel_rfl) (by kernel_rfl) (fun _ _ _ h => h) ⟨hT, c0⟩ (fun _ => trivial) (by rfl) (by intro w'; go_simp) ?_
    try simp only [Act.put, List.setIfInBounds_toArray, List.set_cons_zero, List.set_cons_succ]
    refine Until.wpU_pure (i := 6) (oi := { dst := some 34, op := Op.slice 22 (Operand.tmp 33) (some (Operand.const (Value.int IntKind.i64 1))) none none, type := 22, pos := "ref.go:198", after := #[{ on := 5, ground := Ground.data }], guard := none }) (v := .slice (some ⟨b, o2, none⟩) r.length (c - 1)) rfl (by kernel_rfl) (by kernel_rfl) (by kernel_rfl) (by kernel_rfl) (by kernel_rfl) (fun _ _ _ h => h) ⟨hT, c0⟩ (fun _ => trivial) (by rfl) (by
      intro w'
      rw [← ho2.out]
      by_cases hc1 : c = 1
      · have hr0 : r.length = 0 := by omega
        have hl1 : (1 : Int) ≤ (r.length : Int) + 1 := by omega
        subst hc1
        rw [if_pos rfl]
        simp only [hr0] at hl1 ⊢
        go_simp
      · rw [if_neg hc1]
        have hl1 : (1 : Int) ≤ (r.length : Int) + 1 := by omega
        have hl2 : ¬ ((r.length : Int) + 1 < 1) := by omega
        go_simp) ?_
    try simp only [Act.put, List.setIfInBounds_toArray, List.set_cons_zero, List.set_cons_succ]
    refine Until.wpU_ready (rs := [7, 11]) (by kernel_rfl) (by simp) ?_
    refine (Until.AllU.cons (o := { dst := some 35, op := Op.call { callee := Callee.value (Operand.func 21), args := #[Operand.tmp 32, Operand.tmp 34], argTypes := #[25, 22] }, type := 36, pos := "ref.go:198", after := #[{ on := 4, ground := Ground.data }, { on := 6, ground := Ground.data }], guard := none }) rfl (fun K hK => ?_) (Until.AllU.cons (o := { dst := some 8, op := Op.alloc 25, type := 0, pos := "ref.go:198", after := #[], guard := none }) rfl (fun K hK => ?_) Until.AllU.nil))
    · go_simp
      refine (hcall.out X8 (h0.trans (hT.below.mono h0.size))).mono ?_
      rintro e Y1 ⟨k3, x3, s3, an3, ln3, cn3, ai3, li3, ci3, rfl, hsy, hb⟩
      rw [hz4.out] at hsy
      have hsz := hb.size
      replace hT := hT.keep hb
      replace c0 := (hb.cell (cell_lt c0)).trans c0
      replace n14 := (hb.block _ (Array.getElem?_eq_some_iff.1 n14).1).trans n14
      replace hn14 := hid_e (ownsRow_below hn14.out hb)
      replace hi14 := hid_e (ownsRow_below hi14.out hb)
      replace hb4 := hb4.trans (hb.mono hb4.size)
      clear hb
      refine hK.out _ _ ⟨hT, c0⟩ (fun _ => trivial) ?_
      clear hK K
      try simp only [Act.put, List.setIfInBounds_toArray, List.set_cons_zero, List.set_cons_succ]
      refine Until.wpU_pure (i := 8) (oi := { dst := some 27, op := Op.move (Operand.tmp 35), type := 36, pos := "ref.go:198", after := #[{ on := 7, ground := Ground.data }], guard := none }) (v := .tuple #[.agg #[.int .i64 k3, .int .i64 x3, .string s3, .slice an3 ln3 cn3, .slice ai3 li3 ci3], .bool ub]) rfl (by kernel_rfl) (by kernel_rfl) (by kernel_rfl) (by kernel_rfl) (by kernel_rfl) (fun _ _ _ h => h) ⟨hT, c0⟩ (fun _ => trivial) (by rfl) (by intro w'; go_simp) ?_
      try simp only [Act.put, List.setIfInBounds_toArray, List.set_cons_zero, List.set_cons_succ]
      refine Until.wpU_pure (i := 9) (oi := { dst := some 36, op := Op.extract (Operand.tmp 27) 0, type := 25, pos := "ref.go:198", after := #[{ on := 8, ground := Ground.data }], guard := none }) (v := .agg #[.int .i64 k3, .int .i64 x3, .string s3, .slice an3 ln3 cn3, .slice ai3 li3 ci3]) rfl (by kernel_rfl) (by kernel_rfl) (by kernel_rfl) (by kernel_rfl) (by kernel_rfl) (fun _ _ _ h => h) ⟨hT, c0⟩ (fun _ => trivial) (by rfl) (by intro w'; go_simp) ?_
      try simp only [Act.put, List.setIfInBounds_toArray, List.set_cons_zero, List.set_cons_succ]
      refine Until.wpU_pure (i := 10) (oi := { dst := some 37, op := Op.extract (Operand.tmp 27) 1, type := 4, pos := "ref.go:198", after := #[{ on := 8, ground := Ground.data }, { on := 12, ground := Ground.gcOnly Departure.lateStores }], guard := none }) (v := .bool ub) rfl (by kernel_rfl) (by kernel_rfl) (by kernel_rfl) (by kernel_rfl) (by kernel_rfl) (fun _ _ _ h => h) ⟨hT, c0⟩ (fun _ => trivial) (by rfl) (by intro w'; go_simp) ?_
      try simp only [Act.put, List.setIfInBounds_toArray, List.set_cons_zero, List.set_cons_succ]
      refine Until.wpU_ready (rs := [11]) (by kernel_rfl) (by simp) ?_
      refine (Until.AllU.cons (o := { dst := some 8, op := Op.alloc 25, type := 0, pos := "ref.go:198", after := #[], guard := none }) rfl (fun K hK => ?_) Until.AllU.nil)
      go_simp
      have n8 := heap_alloc_new Y1 (.cells #[.int .i64 0, .int .i64 0, .string ⟨#[]⟩, .slice none 0 0, .slice none 0 0] 25)
      replace hT := hT.alloc (.cells #[.int .i64 0, .int .i64 0, .string ⟨#[]⟩, .slice none 0 0, .slice none 0 0] 25)
      replace c0 := cell_alloc' c0 (.cells #[.int .i64 0, .int .i64 0, .string ⟨#[]⟩, .slice none 0 0, .slice none 0 0] 25)
      replace n14 := (Below.heap_alloc Y1 (.cells #[.int .i64 0, .int .i64 0, .string ⟨#[]⟩, .slice none 0 0, .slice none 0 0] 25) _ (Array.getElem?_eq_some_iff.1 n14).1).trans n14
      replace hn14 := hid_e (hn14.out.alloc (.cells #[.int .i64 0, .int .i64 0, .string ⟨#[]⟩, .slice none 0 0, .slice none 0 0] 25))
      replace hi14 := hid_e (hi14.out.alloc (.cells #[.int .i64 0, .int .i64 0, .string ⟨#[]⟩, .slice none 0 0, .slice none 0 0] 25))
      replace hb4 := hb4.alloc hb4.size (.cells #[.int .i64 0, .int .i64 0, .string ⟨#[]⟩, .slice none 0 0, .slice none 0 0] 25)
      replace hsy := useen_new (Nat.lt_succ_self g4) hsy (.cells #[.int .i64 0, .int .i64 0, .string ⟨#[]⟩, .slice none 0 0, .slice none 0 0] 25)
      have hg8 : g4 < Y1.heap.size := by have := hz4.out; omega
      refine hK.out _ _ ⟨hT, c0⟩ (fun _ => trivial) ?_
      clear hK K
      try simp only [Act.put, List.setIfInBounds_toArray, List.set_cons_zero, List.set_cons_succ]
      generalize Y1.alloc (.cells #[.int .i64 0, .int .i64 0, .string ⟨#[]⟩, .slice none 0 0, .slice none 0 0] 25) = W2 at n8 hT c0 n14 hn14 hi14 hb4 hsy ⊢
      obtain ⟨g8, hq9⟩ : ∃ g, Y1.heap.size = g := ⟨_, rfl⟩
      rw [hq9] at n8 hg8 hsy
      rw [hq9]
      clear hq9
      obtain ⟨z0, z1, z2, z3, z4, zf⟩ := row_cells n8
      have zf0 := zf 0; have zf1 := zf 1; have zf2 := zf 2; have zf3 := zf 3; have zf4 := zf 4
      clear zf
      refine Until.wpU_ready (rs := [12]) (by kernel_rfl) (by simp) ?_
      refine (Until.AllU.cons (o := { dst := none, op := Op.store 25 (Operand.tmp 8) (Operand.tmp 36), type := 0, pos := "ref.go:198", after := #[{ on := 11, ground := Ground.data }, { on := 9, ground := Ground.data }, { on := 7, ground := Ground.chain }, { on := 0, ground := Ground.phase }, { on := 1, ground := Ground.phase }, { on := 2, ground := Ground.phase }, { on := 3, ground := Ground.phase }, { on := 4, ground := Ground.phase }, { on := 5, ground := Ground.phase }, { on := 6, ground := Ground.phase }, { on := 7, ground := Ground.phase }, { on := 8, ground := Ground.phase }, { on := 9, ground := Ground.phase }, { on := 10, ground := Ground.textOnly Departure.lateStores }, { on := 11, ground := Ground.phase }], guard := none }) rfl (fun K hK => ?_) Until.AllU.nil)
      go_simp
      have hfin := hid_e (uh_put hT hb4 n14 hn14.out hi14.out n8 hg8 hgi.2 hgi.1 hg4 h0.size hsy)
      have c3 : (put5 W2 g8 (.int .i64 k3) (.int .i64 x3) (.string s3) (.slice an3 ln3 cn3) (.slice ai3 li3 ci3)).cell? ⟨b, o, none⟩ = some (.string s) := (World.cell?_of_block (w := W2) (a := ⟨b, o, none⟩) (put5_far _ _ _ _ _ (show b ≠ g8 by have h1 := cell_lt hp; have h2 := h0.size; simp only at h1; omega))).trans c0
      refine hK.out _ _ ⟨hfin.out.an, c3⟩ (fun _ => trivial) ?_
      clear hK K
      try simp only [Act.put, List.setIfInBounds_toArray, List.set_cons_zero, List.set_cons_succ]
      clear z0 z1 z2 z3 z4 zf0 zf1 zf2 zf3 zf4
      refine Until.wpU_ready (rs := [13]) (by kernel_rfl) (by simp) ?_
      refine (Until.AllU.cons (o := { dst := some 9, op := Op.assign (Operand.tmp 37), type := 4, pos := "ref.go:198", after := #[{ on := 10, ground := Ground.data }, { on := 12, ground := Ground.chain }, { on := 0, ground := Ground.phase }, { on := 1, ground := Ground.phase }, { on := 2, ground := Ground.phase }, { on := 3, ground := Ground.phase }, { on := 4, ground := Ground.phase }, { on := 5, ground := Ground.phase }, { on := 6, ground := Ground.phase }, { on := 7, ground := Ground.phase }, { on := 8, ground := Ground.phase }, { on := 9, ground := Ground.phase }, { on := 10, ground := Ground.phase }, { on := 11, ground := Ground.phase }, { on := 12, ground := Ground.phase }], guard := none }) rfl (fun K hK => ?_) Until.AllU.nil)
      go_simp
      refine hK.out _ _ ⟨hfin.out.an, c3⟩ (fun _ => trivial) ?_
      clear hK K
      try simp only [Act.put, List.setIfInBounds_toArray, List.set_cons_zero, List.set_cons_succ]
      refine Until.wpU_done (by kernel_rfl) ?_ _
      refine NoPanic.normal ?_
      go_wp2_with fail
      go_meet
      exact ⟨_, _, _, _, _, _, _, _, _, _, rfl, rfl, hfin⟩
    · go_simp
      have n8 := heap_alloc_new X8 (.cells #[.int .i64 0, .int .i64 0, .string ⟨#[]⟩, .slice none 0 0, .slice none 0 0] 25)
      have hz9 : (X8.alloc (.cells #[.int .i64 0, .int .i64 0, .string ⟨#[]⟩, .slice none 0 0, .slice none 0 0] 25)).heap.size = X8.heap.size + 1 := World.size_alloc _ _
      have hg8 : g4 < X8.heap.size := by have := hz4.out; omega
      replace hz9 := hid_e hz9
      replace hT := hT.alloc (.cells #[.int .i64 0, .int .i64 0, .string ⟨#[]⟩, .slice none 0 0, .slice none 0 0] 25)
      replace c0 := cell_alloc' c0 (.cells #[.int .i64 0, .int .i64 0, .string ⟨#[]⟩, .slice none 0 0, .slice none 0 0] 25)
      replace n14 := (Below.heap_alloc X8 (.cells #[.int .i64 0, .int .i64 0, .string ⟨#[]⟩, .slice none 0 0, .slice none 0 0] 25) _ (Array.getElem?_eq_some_iff.1 n14).1).trans n14
      replace hn14 := hid_e (hn14.out.alloc (.cells #[.int .i64 0, .int .i64 0, .string ⟨#[]⟩, .slice none 0 0, .slice none 0 0] 25))
      replace hi14 := hid_e (hi14.out.alloc (.cells #[.int .i64 0, .int .i64 0, .string ⟨#[]⟩, .slice none 0 0, .slice none 0 0] 25))
      replace hb4 := hb4.alloc hb4.size (.cells #[.int .i64 0, .int .i64 0, .string ⟨#[]⟩, .slice none 0 0, .slice none 0 0] 25)
      refine hK.out _ _ ⟨hT, c0⟩ (fun _ => trivial) ?_
      clear hK K
      try simp only [Act.put, List.setIfInBounds_toArray, List.set_cons_zero, List.set_cons_succ]
      generalize X8.alloc (.cells #[.int .i64 0, .int .i64 0, .string ⟨#[]⟩, .slice none 0 0, .slice none 0 0] 25) = W2 at n8 hT c0 n14 hn14 hi14 hb4 hz9 ⊢
      obtain ⟨g8, hq9⟩ : ∃ g, X8.heap.size = g := ⟨_, rfl⟩
      rw [hq9] at n8 hg8 hz9 hz4
      rw [hq9]
      clear hq9
      refine Until.wpU_ready (rs := [7]) (by kernel_rfl) (by simp) ?_
      refine (Until.AllU.cons (o := { dst := some 35, op := Op.call { callee := Callee.value (Operand.func 21), args := #[Operand.tmp 32, Operand.tmp 34], argTypes := #[25, 22] }, type := 36, pos := "ref.go:198", after := #[{ on := 4, ground := Ground.data }, { on := 6, ground := Ground.data }], guard := none }) rfl (fun K hK => ?_) Until.AllU.nil)
      go_simp
      refine (hcall.out W2 (h0.trans (hT.below.mono h0.size))).mono ?_
      rintro e Y1 ⟨k3, x3, s3, an3, ln3, cn3, ai3, li3, ci3, rfl, hsy, hb⟩
      rw [hz9.out] at hsy
      replace hsy := useen_behind (g := g8) (g7 := g4) (by omega) (Nat.lt_succ_self g8) hsy
      replace n8 := (hb.block _ (Array.getElem?_eq_some_iff.1 n8).1).trans n8
      replace hT := hT.keep hb
      replace c0 := (hb.cell (cell_lt c0)).trans c0
      replace n14 := (hb.block _ (Array.getElem?_eq_some_iff.1 n14).1).trans n14
      replace hn14 := hid_e (ownsRow_below hn14.out hb)
      replace hi14 := hid_e (ownsRow_below hi14.out hb)
      replace hb4 := hb4.trans (hb.mono hb4.size)
      clear hb
      refine hK.out _ _ ⟨hT, c0⟩ (fun _ => trivial) ?_
      clear hK K
      try simp only [Act.put, List.setIfInBounds_toArray, List.set_cons_zero, List.set_cons_succ]
      refine Until.wpU_pure (i := 8) (oi := { dst := some 27, op := Op.move (Operand.tmp 35), type := 36, pos := "ref.go:198", after := #[{ on := 7, ground := Ground.data }], guard := none }) (v := .tuple #[.agg #[.int .i64 k3, .int .i64 x3, .string s3, .slice an3 ln3 cn3, .slice ai3 li3 ci3], .bool ub]) rfl (by kernel_rfl) (by kernel_rfl) (by kernel_rfl) (by kernel_rfl) (by kernel_rfl) (fun _ _ _ h => h) ⟨hT, c0⟩ (fun _ => trivial) (by rfl) (by intro w'; go_simp) ?_
      try simp only [Act.put, List.setIfInBounds_toArray, List.set_cons_zero, List.set_cons_succ]
      refine Until.wpU_pure (i := 9) (oi := { dst := some 36, op := Op.extract (Operand.tmp 27) 0, type := 25, pos := "ref.go:198", after := #[{ on := 8, ground := Ground.data }], guard := none }) (v := .agg #[.int .i64 k3, .int .i64 x3, .string s3, .slice an3 ln3 cn3, .slice ai3 li3 ci3]) rfl (by kernel_rfl) (by kernel_rfl) (by kernel_rfl) (by kernel_rfl) (by kernel_rfl) (fun _ _ _ h => h) ⟨hT, c0⟩ (fun _ => trivial) (by rfl) (by intro w'; go_simp) ?_
      try simp only [Act.put, List.setIfInBounds_toArray, List.set_cons_zero, List.set_cons_succ]
      refine Until.wpU_pure (i := 10) (oi := { dst := some 37, op := Op.extract (Operand.tmp 27) 1, type := 4, pos := "ref.go:198", after := #[{ on := 8, ground := Ground.data }, { on := 12, ground := Ground.gcOnly Departure.lateStores }], guard := none }) (v := .bool ub) rfl (by kernel_rfl) (by kernel_rfl) (by kernel_rfl) (by kernel_rfl) (by kernel_rfl) (fun _ _ _ h => h) ⟨hT, c0⟩ (fun _ => trivial) (by rfl) (by intro w'; go_simp) ?_
      try simp only [Act.put, List.setIfInBounds_toArray, List.set_cons_zero, List.set_cons_succ]
      obtain ⟨z0, z1, z2, z3, z4, zf⟩ := row_cells n8
      have zf0 := zf 0; have zf1 := zf 1; have zf2 := zf 2; have zf3 := zf 3; have zf4 := zf 4
      clear zf
      refine Until.wpU_ready (rs := [12]) (by kernel_rfl) (by simp) ?_
      refine (Until.AllU.cons (o := { dst := none, op := Op.store 25 (Operand.tmp 8) (Operand.tmp 36), type := 0, pos := "ref.go:198", after := #[{ on := 11, ground := Ground.data }, { on := 9, ground := Ground.data }, { on := 7, ground := Ground.chain }, { on := 0, ground := Ground.phase }, { on := 1, ground := Ground.phase }, { on := 2, ground := Ground.phase }, { on := 3, ground := Ground.phase }, { on := 4, ground := Ground.phase }, { on := 5, ground := Ground.phase }, { on := 6, ground := Ground.phase }, { on := 7, ground := Ground.phase }, { on := 8, ground := Ground.phase }, { on := 9, ground := Ground.phase }, { on := 10, ground := Ground.textOnly Departure.lateStores }, { on := 11, ground := Ground.phase }], guard := none }) rfl (fun K hK => ?_) Until.AllU.nil)
      go_simp
      have hfin := hid_e (uh_put hT hb4 n14 hn14.out hi14.out n8 hg8 hgi.2 hgi.1 hg4 h0.size hsy)
      have c3 : (put5 Y1 g8 (.int .i64 k3) (.int .i64 x3) (.string s3) (.slice an3 ln3 cn3) (.slice ai3 li3 ci3)).cell? ⟨b, o, none⟩ = some (.string s) := (World.cell?_of_block (w := Y1) (a := ⟨b, o, none⟩) (put5_far _ _ _ _ _ (show b ≠ g8 by have h1 := cell_lt hp; have h2 := h0.size; simp only at h1; omega))).trans c0
      refine hK.out _ _ ⟨hfin.out.an, c3⟩ (fun _ => trivial) ?_
      clear hK K
      try simp only [Act.put, List.setIfInBounds_toArray, List.set_cons_zero, List.set_cons_succ]
      clear z0 z1 z2 z3 z4 zf0 zf1 zf2 zf3 zf4
      refine Until.wpU_ready (rs := [13]) (by kernel_rfl) (by simp) ?_
      refine (Until.AllU.cons (o := { dst := some 9, op := Op.assign (Operand.tmp 37), type := 4, pos := "ref.go:198", after := #[{ on := 10, ground := Ground.data }, { on := 12, ground := Ground.chain }, { on := 0, ground := Ground.phase }, { on := 1, ground := Ground.phase }, { on := 2, ground := Ground.phase }, { on := 3, ground := Ground.phase }, { on := 4, ground := Ground.phase }, { on := 5, ground := Ground.phase }, { on := 6, ground := Ground.phase }, { on := 7, ground := Ground.phase }, { on := 8, ground := Ground.phase }, { on := 9, ground := Ground.phase }, { on := 10, ground := Ground.phase }, { on := 11, ground := Ground.phase }, { on := 12, ground := Ground.phase }], guard := none }) rfl (fun K hK => ?_) Until.AllU.nil)
      go_simp
      refine hK.out _ _ ⟨hfin.out.an, c3⟩ (fun _ => trivial) ?_
      clear hK K
      try simp only [Act.put, List.setIfInBounds_toArray, List.set_cons_zero, List.set_cons_succ]
      refine Until.wpU_done (by kernel_rfl) ?_ _
      refine NoPanic.normal ?_
      go_wp2_with fail
      go_meet
      exact ⟨_, _, _, _, _, _, _, _, _, _, rfl, rfl, hfin⟩
  case rest =>
    clear hT c0 hcall hia n14 hn14 hi14 hb4
    obtain ⟨g8, k3, x3, s3, an3, ln3, cn3, ai3, li3, ci3, rfl, rfl, hH⟩ := hcut
    cases ub
    · have hq := hQ3.out rfl
      subst hq
      have hA := hH.out.an
      have hse := hid_e (seen_all (w := w) (h0.trans (hA.below.mono h0.size)) hV.out)
      obtain ⟨y0, y1, y2, y3, y4, -⟩ := row_cells hA.one
      obtain ⟨z0, z1, z2, z3, z4, zf⟩ := row_cells hA.two
      have zf0 := zf 0; have zf1 := zf 1; have zf2 := zf 2; have zf3 := zf 3; have zf4 := zf 4
      clear zf
      go_wp2_with fail
      obtain ⟨hfe, hbe⟩ := nest_end hA h0.size hse.out (.int .i64 5) (.int .i64 x) (.string tx) (.slice an ns.length cn) (.slice (some ⟨g2, q2, none⟩) its.length ci)
      have hr5 := put5_cells hA.two (.int .i64 5) (.int .i64 x) (.string tx) (.slice an ns.length cn) (.slice (some ⟨g2, q2, none⟩) its.length ci)
      have r0 := hr5 0; have r1 := hr5 1; have r2 := hr5 2; have r3 := hr5 3; have r4 := hr5 4
      clear hr5
      refine bodyPost_ret (v := .tuple #[.agg #[.int .i64 5, .int .i64 x, .string tx, .slice an ns.length cn, .slice (some ⟨g2, q2, none⟩) its.length ci], .bool false]) (by simp [results, Try.results21, go_sem, r0, r1, r2, r3, r4]) rfl ?_
      exact ⟨_, _, _, _, _, _, _, _, _, rfl, hfe, hbe⟩
    · have hQ4 := hid_e (hQ2.out rfl)
      clear hQ2 hQ3
      have hQ2 := hQ4
      clear hQ4
      go_upto_region 11 with fail
      obtain ⟨u0, d0⟩ := row_at5 hH.out.ri (i * 5) (by have := him.out; omega)
      obtain ⟨u1, d1⟩ := row_at5 hH.out.ri (i * 5 + 1) (by have := him.out; omega)
      obtain ⟨u2, d2⟩ := row_at5 hH.out.ri (i * 5 + 2) (by have := him.out; omega)
      obtain ⟨u3, d3⟩ := row_at5 hH.out.ri (i * 5 + 3) (by have := him.out; omega)
      obtain ⟨u4, d4⟩ := row_at5 hH.out.ri (i * 5 + 4) (by have := him.out; omega)
      have f0 := World.ownsRow.frozenAt hH.out.ri (i * 5)
      have f1 := World.ownsRow.frozenAt hH.out.ri (i * 5 + 1)
      have f2 := World.ownsRow.frozenAt hH.out.ri (i * 5 + 2)
      have f3 := World.ownsRow.frozenAt hH.out.ri (i * 5 + 3)
      have f4 := World.ownsRow.frozenAt hH.out.ri (i * 5 + 4)
      have r6 := ((((((hH.out.ri).stored (i * 5) (.int .i64 k3)).1.stored (i * 5 + 1) (.int .i64 x3)).1.stored (i * 5 + 2) (.string s3)).1.stored (i * 5 + 3) (.slice an3 ln3 cn3)).1.stored (i * 5 + 4) (.slice ai3 li3 ci3)).1
      obtain ⟨W6, hW6⟩ : ∃ W6, Hid ((((((wc.setCell ⟨gi, i * 5, none⟩ (.int .i64 k3)).setCell ⟨gi, i * 5 + 1, none⟩ (.int .i64 x3)).setCell ⟨gi, i * 5 + 2, none⟩ (.string s3)).setCell ⟨gi, i * 5 + 3, none⟩ (.slice an3 ln3 cn3)).setCell ⟨gi, i * 5 + 4, none⟩ (.slice ai3 li3 ci3)) = W6) := ⟨_, hid_e rfl⟩
      rw [hW6.out] at r6
      replace r6 := hid_e r6
      have k6 : Hid (∀ j, j ≠ gi → W6.heap[j]? = wc.heap[j]?) := fun j hj => by rw [← hW6.out]; exact (Below.heap_setCell _ _ _ _ hj).trans ((Below.heap_setCell _ _ _ _ hj).trans ((Below.heap_setCell _ _ _ _ hj).trans ((Below.heap_setCell _ _ _ _ hj).trans (Below.heap_setCell _ _ _ _ hj))))
      have s6 : Hid (W6.heap.size = wc.heap.size) := by rw [Hid, ← hW6.out]; simp [World.setCell]
      have B6 : Below X1.heap.size X1 W6 := ⟨by rw [← hW6.out]; exact (hH.out.below).os, by rw [← hW6.out]; exact (hH.out.below).tape, by rw [← hW6.out]; exact (hH.out.below).output, by rw [s6.out]; exact (hH.out.below).size, fun j hj => (k6.out j (by omega)).trans ((hH.out.below).block j hj)⟩
      have hA6 : An w #[.int .i64 5, .int .i64 x, .string tx, .slice an ns.length cn, .slice (some ⟨g2, q2, none⟩) its.length ci] W6 := ⟨⟨by rw [← hW6.out]; exact (hH.out.an).below.os, by rw [← hW6.out]; exact (hH.out.an).below.tape, by rw [← hW6.out]; exact (hH.out.an).below.output, by rw [s6.out]; exact (hH.out.an).below.size, fun j hj => (k6.out j (by omega)).trans ((hH.out.an).below.block j hj)⟩, (k6.out _ (by omega)).trans (hH.out.an).one, (k6.out _ (by omega)).trans (hH.out.an).two⟩
      obtain ⟨y0, y1, y2, y3, y4, -⟩ := row_cells hH.out.box7
      obtain ⟨x0, x1, x2, x3, x4, -⟩ := row_cells hH.out.box8
      go_upto_region 12 with fail
      clear y0 y1 y2 y3 y4 u0 u1 u2 u3 u4 d0 d1 d2 d3 d4 f0 f1 f2 f3 f4 x0 x1 x2 x3 x4
      rw [hW6.out]
      clear hW6
      have n6 := (k6.out g4 (by omega)).trans hH.out.box7
      have hn6 := rows_keep hH.out.rn hH.out.ri k6.out
      have hse := with_fin (w0 := w0) (w := X1) (W := W6) (S := fun j => j < w0.heap.size ∨ (g4 < j ∧ j ≠ g8)) (k := 5) (ns := KN) (its := KI.set i R) (nm := .slice a4 KN.length c4) (gi := gi) (ci := cig) hBc (fun j hj => .inl hj) B6 (by rw [List.length_set]; exact r6.out) (seenR_row hn6) (fun W' hk2 hs2 ha => ItemsRep.set (hH.out.seen W' ⟨Nat.le_trans (Nat.le_of_eq s6.out.symm) ha.1, fun p u hp2 hc2 => ha.2 p u (.inl hp2) ((World.cell?_of_block (w := wc) (k6.out _ (hp2.elim (fun h => by have h2 := h0.size; omega) (fun h => by omega)))).trans hc2)⟩) i him.out (ItemsRep.mono hk2 hs2 hIt.out))
      rw [List.length_set, hQ2.out] at hse
      replace hse := hid_e (useen_less hg4 hltT hse)
      obtain ⟨y0, y1, y2, y3, y4, -⟩ := row_cells n6
      obtain ⟨z0, z1, z2, z3, z4, zf⟩ := row_cells hA6.two
      have zf0 := zf 0; have zf1 := zf 1; have zf2 := zf 2; have zf3 := zf 3; have zf4 := zf 4
      clear zf
      go_wp2_with fail
      obtain ⟨hfe, hbe⟩ := nest_end hA6 h0.size hse.out (.int .i64 5) (.int .i64 0) (.string ⟨#[]⟩) (.slice a4 KN.length c4) (.slice (some ⟨gi, 0, none⟩) KI.length cig)
      have hr5 := put5_cells hA6.two (.int .i64 5) (.int .i64 0) (.string ⟨#[]⟩) (.slice a4 KN.length c4) (.slice (some ⟨gi, 0, none⟩) KI.length cig)
      have r0 := hr5 0; have r1 := hr5 1; have r2 := hr5 2; have r3 := hr5 3; have r4 := hr5 4
      clear hr5
      refine bodyPost_ret (v := .tuple #[.agg #[.int .i64 5, .int .i64 0, .string ⟨#[]⟩, .slice a4 KN.length c4, .slice (some ⟨gi, 0, none⟩) KI.length cig], .bool true]) (by simp [results, Try.results21, go_sem, r0, r1, r2, r3, r4]) rfl ?_
      exact ⟨_, _, _, _, _, _, _, _, _, rfl, hfe, hbe⟩
end Go.Proofs.Ytmlbofbnklmedaa
