import Derived.Test.YtmlbofbnklmedaaT9
/-! The document's Unset: a list's item. -/
namespace Go.Proofs.Ytmlbofbnklmedaa
open Go Go.RowKit

set_option maxHeartbeats 16000000 in
set_option maxRecDepth 100000 in
theorem runset_last5 (x : Int) (tx : ByteArray) (an : Option Addr) (cn : Nat) (ns : List ByteArray) (ai : Option Addr) (ci : Nat) (its : List Tr) (b o c : Nat) (s : ByteArray) (r : List ByteArray) (w0 w : World) (h0 : Below w0.heap.size w0 w) (hs : s.size ≤ 9223372036854775806) (hp : w0.cell? ⟨b, o, none⟩ = some (.string s)) (hV : Hid (VRep w0 (.node 5 x tx ns its) (five 5 x tx (.slice an ns.length cn) (.slice ai its.length ci)))) (hN : Hid (Reads w0 (.slice an ns.length cn) ns)) (hil : its.length ≤ 9223372036854775807) (hb80 : (its.length + 1) * 80 ≤ 140737488355328) (i : Nat) (u : Tr) (hu : Hid (its[i]? = some u)) (hpl : Hid (rplace 5 ns its.length s = (i : Int))) (him : Hid (i < (keepIts 5 ns its).length)) (hr0 : r = []) :
    Calls Try.prog 21 #[.agg #[.int .i64 5, .int .i64 x, .string tx, .slice an ns.length cn, .slice ai its.length ci], .slice (some ⟨b, o, none⟩) (r.length + 1) c] w (RU w0 w true (outT 5 ns its i)) := by
  subst hr0
  obtain ⟨Q, hQ⟩ : ∃ Q, Hid (outT 5 ns its i = Q) := ⟨_, hid_e rfl⟩
  rw [hQ.out]
  have hQ2 : Hid (.node 5 0 ⟨#[]⟩ (keepNs 5 ns its) ((keepIts 5 ns its).set i nilT') = Q) := by rw [Hid, ← hQ.out]; unfold outT keepNs keepIts; rw [if_pos rfl, if_neg (by decide), if_neg (by decide)]
  clear hQ
  have hlt : i < its.length := (List.getElem?_eq_some_iff.1 hu.out).1
  obtain ⟨g2, q2, rfl, hlt2, hVL⟩ : ∃ g q, ai = some ⟨g, q, none⟩ ∧ g < w0.heap.size ∧ VRepL w0 g q its := by
    have h := hV.out
    unfold VRep at h
    obtain ⟨nm, a9, c9, e, h1, h2, h3⟩ := h
    simp only [five, List.cons.injEq, Value.slice.injEq, true_and, and_true] at e
    obtain ⟨rfl, rfl, rfl⟩ := e
    exact h3.resolve_left (by intro e; subst e; simp at hlt)
  obtain ⟨cs, hia, hr⟩ := VRepL.at its q2 i u hVL hu.out
  obtain ⟨k2, x2, s2, an2, ln2, cn2, ai2, li2, ci2, rfl⟩ := vrep_five hr
  replace hia := hid_e hia
  have j0 : (0 : Int) ≤ (i : Int) := by omega
  have j1 : (i : Int) < (its.length : Int) := by omega
  have j2 : ¬ ((i : Int) < 0) := by omega
  have hT := an_new w #[.int .i64 5, .int .i64 x, .string tx, .slice an ns.length cn, .slice (some ⟨g2, q2, none⟩) its.length ci]
  have hne : ((((([] : List ByteArray).length + 1 : Nat) : Int)) == 0) = false := by simp <;> omega
  have hne2 : (((([] : List ByteArray).length : Int) + 1) == 0) = false := by simp <;> omega
  have i0 : (0 : Int) < ((([] : List ByteArray).length + 1 : Nat) : Int) := by omega
  have i00 : (0 : Int) < (([] : List ByteArray).length : Int) + 1 := by omega
  go_enter Try.func21, Try.ntmps21
  go_upto_region 1 with fail
  generalize (w.alloc (.cells #[.int .i64 5, .int .i64 x, .string tx, .slice an ns.length cn, .slice (some ⟨g2, q2, none⟩) its.length ci] 25)).alloc (.cells #[.int .i64 0, .int .i64 0, .string ⟨#[]⟩, .slice none 0 0, .slice none 0 0] 25) = X0 at hT ⊢
  have c0 : X0.cell? ⟨b, o, none⟩ = some (.string s) := ((h0.trans (hT.below.mono h0.size)).cell (cell_lt hp)).trans hp
  go_upto_region 3 with fail
  replace hT := hT.drew
  replace c0 : X0.drew.cell? ⟨b, o, none⟩ = some (.string s) := c0
  generalize hX : X0.drew = X9 at hT c0
  refine wp_region_noPanic ?_
  refine Until.wp_region_U (fun w' => An w #[.int .i64 5, .int .i64 x, .string tx, .slice an ns.length cn, .slice (some ⟨g2, q2, none⟩) its.length ci] w' ∧ w'.cell? ⟨b, o, none⟩ = some (.string s)) (fun _ => True) 100 (by kernel_rfl) ?_
  rw [hX]
  clear hX
  refine Until.wpU_load0 (i := 0) (oi := { dst := some 14, op := Op.load 25 (Operand.tmp 2), type := 25, pos := "ref.go:192", after := #[], guard := none }) (v := .agg #[.int .i64 5, .int .i64 x, .string tx, .slice an ns.length cn, .slice (some ⟨g2, q2, none⟩) its.length ci]) rfl (by kernel_rfl) (by kernel_rfl) (by kernel_rfl) (by kernel_rfl) (by kernel_rfl) (fun _ _ _ h => h) ⟨hT, c0⟩ (fun _ => trivial) (by rfl) (by intro w' hw'; obtain ⟨t0, t1, t2, t3, t4, -⟩ := row_cells hw'.1.one; clear hw'; go_simp) ?_
  try simp only [Act.put, List.setIfInBounds_toArray, List.set_cons_zero, List.set_cons_succ]
  refine Until.wpU_pure (i := 1) (oi := { dst := some 15, op := Op.move (Operand.tmp 1), type := 22, pos := "ref.go:192", after := #[], guard := none }) (v := .slice (some ⟨b, o, none⟩) (([] : List ByteArray).length + 1) c) rfl (by kernel_rfl) (by kernel_rfl) (by kernel_rfl) (by kernel_rfl) (by kernel_rfl) (fun _ _ _ h => h) ⟨hT, c0⟩ (fun _ => trivial) (by rfl) (by intro w'; go_simp) ?_
  try simp only [Act.put, List.setIfInBounds_toArray, List.set_cons_zero, List.set_cons_succ]
  refine Until.wpU_pure (i := 2) (oi := { dst := some 16, op := Op.indexAddr 22 (Operand.tmp 15) (Operand.const (Value.int IntKind.i64 0)), type := 0, pos := "ref.go:192", after := #[{ on := 1, ground := Ground.data }], guard := none }) (v := .pointer (some ⟨b, o, none⟩)) rfl (by kernel_rfl) (by kernel_rfl) (by kernel_rfl) (by kernel_rfl) (by kernel_rfl) (fun _ _ _ h => h) ⟨hT, c0⟩ (fun _ => trivial) (by rfl) (by intro w'; go_simp) ?_
  try simp only [Act.put, List.setIfInBounds_toArray, List.set_cons_zero, List.set_cons_succ]
  refine Until.wpU_load0 (i := 3) (oi := { dst := some 17, op := Op.load 9 (Operand.tmp 16), type := 9, pos := "ref.go:192", after := #[{ on := 2, ground := Ground.data }], guard := none }) (v := .string s) rfl (by kernel_rfl) (by kernel_rfl) (by kernel_rfl) (by kernel_rfl) (by kernel_rfl) (fun _ _ _ h => h) ⟨hT, c0⟩ (fun _ => trivial) (by rfl) (by intro w' hw'; have t0 := hw'.2; clear hw'; go_simp) ?_
  try simp only [Act.put, List.setIfInBounds_toArray, List.set_cons_zero, List.set_cons_succ]
  refine Until.wpU_ready (rs := [4]) (by kernel_rfl) (by simp) ?_
  refine (Until.AllU.cons (o := { dst := some 18, op := Op.call { callee := Callee.value (Operand.func 36), args := #[Operand.tmp 14, Operand.tmp 17], argTypes := #[25, 9] }, type := 3, pos := "ref.go:192", after := #[{ on := 0, ground := Ground.data }, { on := 3, ground := Ground.data }], guard := none }) rfl (fun K hK => ?_) Until.AllU.nil)
  go_simp
  refine (rplace_any 5 x tx an cn ns (some ⟨g2, q2, none⟩) its.length ci s _ (hid_f (hN.out.keep (h0.trans (hT.below.mono h0.size)))) hil hs).mono ?_
  rintro e X1 ⟨rfl, hb⟩
  rw [hpl.out]
  replace hT := hT.keep hb
  replace c0 := (hb.cell (cell_lt c0)).trans c0
  clear hb
  refine hK.out _ _ ⟨hT, c0⟩ (fun _ => trivial) ?_
  clear hK K
  try simp only [Act.put, List.setIfInBounds_toArray, List.set_cons_zero, List.set_cons_succ]
  refine Until.wpU_ready (rs := [5]) (by kernel_rfl) (by simp) ?_
  refine (Until.AllU.cons (o := { dst := some 6, op := Op.assign (Operand.tmp 18), type := 3, pos := "ref.go:192", after := #[{ on := 4, ground := Ground.data }, { on := 4, ground := Ground.chain }, { on := 0, ground := Ground.phase }, { on := 1, ground := Ground.phase }, { on := 2, ground := Ground.phase }, { on := 3, ground := Ground.phase }, { on := 4, ground := Ground.phase }], guard := none }) rfl (fun K hK => ?_) Until.AllU.nil)
  go_simp
  refine hK.out _ _ ⟨hT, c0⟩ (fun _ => trivial) ?_
  clear hK K
  try simp only [Act.put, List.setIfInBounds_toArray, List.set_cons_zero, List.set_cons_succ]
  refine Until.wpU_done (by kernel_rfl) ?_ _
  refine NoPanic.normal ?_
  clear hia hr
  have hBc := h0.trans (hT.below.mono h0.size)
  obtain ⟨xs, hIt, hca⟩ := ranew_any 5 x tx ns its _ (.inl rfl) hb80 w0 X1 hBc hV.out
  obtain ⟨KN, hKN⟩ : ∃ l, Hid (keepNs 5 ns its = l) := ⟨_, hid_e rfl⟩
  obtain ⟨KI, hKI⟩ : ∃ l, Hid (keepIts 5 ns its = l) := ⟨_, hid_e rfl⟩
  rw [hKN.out, hKI.out] at hca hQ2
  rw [hKI.out] at hIt him
  clear hKN hKI
  replace hIt := hid_e hIt
  replace hca := hid_e hca
  have hi2b : (i : Int) < (KI.length : Int) := by have := him.out; omega
  obtain ⟨y0, y1, y2, y3, y4, -⟩ := row_cells hT.one
  go_wp2_with fail
  clear y0 y1 y2 y3 y4
  go_fit hca.out
  rintro e Y2 ⟨nv, gi, cig, rfl, hb2, hn14, hi14⟩
  obtain ⟨a4, c4, rfl⟩ := ownsRow_slice hn14
  have hgi := ownsRow_ge hi14 (g := gi) rfl
  have hltT := hT.lt
  have hb4 : Below X1.heap.size X1 (Y2.alloc (.cells #[.int .i64 5, .int .i64 0, .string ⟨#[]⟩, .slice a4 KN.length c4, .slice (some ⟨gi, 0, none⟩) KI.length cig] 25)) := hb2.alloc hb2.size _
  have n14 := heap_alloc_new Y2 (.cells #[.int .i64 5, .int .i64 0, .string ⟨#[]⟩, .slice a4 KN.length c4, .slice (some ⟨gi, 0, none⟩) KI.length cig] 25)
  replace hT := hT.keep hb4
  replace c0 := (hb4.cell (cell_lt c0)).trans c0
  replace hn14 := hid_e (hn14.alloc (.cells #[.int .i64 5, .int .i64 0, .string ⟨#[]⟩, .slice a4 KN.length c4, .slice (some ⟨gi, 0, none⟩) KI.length cig] 25))
  replace hi14 := hid_e (hi14.alloc (.cells #[.int .i64 5, .int .i64 0, .string ⟨#[]⟩, .slice a4 KN.length c4, .slice (some ⟨gi, 0, none⟩) KI.length cig] 25))
  have hz4 : (Y2.alloc (.cells #[.int .i64 5, .int .i64 0, .string ⟨#[]⟩, .slice a4 KN.length c4, .slice (some ⟨gi, 0, none⟩) KI.length cig] 25)).heap.size = Y2.heap.size + 1 := World.size_alloc _ _
  clear hca hb2
  go_upto_region 7 with fail
  generalize Y2.alloc (.cells #[.int .i64 5, .int .i64 0, .string ⟨#[]⟩, .slice a4 KN.length c4, .slice (some ⟨gi, 0, none⟩) KI.length cig] 25) = W4 at hb4 n14 hT c0 hn14 hi14 hz4 ⊢
  obtain ⟨g4, hq9⟩ : ∃ g, Y2.heap.size = g := ⟨_, rfl⟩
  rw [hq9] at n14 hgi hz4
  rw [hq9]
  clear hq9
  have hg4 : w.heap.size + 2 ≤ g4 := by omega
  obtain ⟨y0, y1, y2, y3, y4, -⟩ := row_cells hT.one
  go_upto_region 14 with fail
  clear y0 y1 y2 y3 y4
  obtain ⟨u0, d0⟩ := row_at5 hi14.out (i * 5) (by have := him.out; omega)
  obtain ⟨u1, d1⟩ := row_at5 hi14.out (i * 5 + 1) (by have := him.out; omega)
  obtain ⟨u2, d2⟩ := row_at5 hi14.out (i * 5 + 2) (by have := him.out; omega)
  obtain ⟨u3, d3⟩ := row_at5 hi14.out (i * 5 + 3) (by have := him.out; omega)
  obtain ⟨u4, d4⟩ := row_at5 hi14.out (i * 5 + 4) (by have := him.out; omega)
  have f0 := World.ownsRow.frozenAt hi14.out (i * 5)
  have f1 := World.ownsRow.frozenAt hi14.out (i * 5 + 1)
  have f2 := World.ownsRow.frozenAt hi14.out (i * 5 + 2)
  have f3 := World.ownsRow.frozenAt hi14.out (i * 5 + 3)
  have f4 := World.ownsRow.frozenAt hi14.out (i * 5 + 4)
  have r6 := ((((((hi14.out).stored (i * 5) (.int .i64 0)).1.stored (i * 5 + 1) (.int .i64 0)).1.stored (i * 5 + 2) (.string ⟨#[]⟩)).1.stored (i * 5 + 3) (.slice none 0 0)).1.stored (i * 5 + 4) (.slice none 0 0)).1
  obtain ⟨W6, hW6⟩ : ∃ W6, Hid ((((((W4.setCell ⟨gi, i * 5, none⟩ (.int .i64 0)).setCell ⟨gi, i * 5 + 1, none⟩ (.int .i64 0)).setCell ⟨gi, i * 5 + 2, none⟩ (.string ⟨#[]⟩)).setCell ⟨gi, i * 5 + 3, none⟩ (.slice none 0 0)).setCell ⟨gi, i * 5 + 4, none⟩ (.slice none 0 0)) = W6) := ⟨_, hid_e rfl⟩
  rw [hW6.out] at r6
  replace r6 := hid_e r6
  have k6 : Hid (∀ j, j ≠ gi → W6.heap[j]? = W4.heap[j]?) := fun j hj => by rw [← hW6.out]; exact (Below.heap_setCell _ _ _ _ hj).trans ((Below.heap_setCell _ _ _ _ hj).trans ((Below.heap_setCell _ _ _ _ hj).trans ((Below.heap_setCell _ _ _ _ hj).trans (Below.heap_setCell _ _ _ _ hj))))
  have s6 : Hid (W6.heap.size = W4.heap.size) := by rw [Hid, ← hW6.out]; simp [World.setCell]
  have B6 : Below X1.heap.size X1 W6 := ⟨by rw [← hW6.out]; exact (hb4).os, by rw [← hW6.out]; exact (hb4).tape, by rw [← hW6.out]; exact (hb4).output, by rw [s6.out]; exact (hb4).size, fun j hj => (k6.out j (by omega)).trans ((hb4).block j hj)⟩
  have hA6 : An w #[.int .i64 5, .int .i64 x, .string tx, .slice an ns.length cn, .slice (some ⟨g2, q2, none⟩) its.length ci] W6 := ⟨⟨by rw [← hW6.out]; exact (hT).below.os, by rw [← hW6.out]; exact (hT).below.tape, by rw [← hW6.out]; exact (hT).below.output, by rw [s6.out]; exact (hT).below.size, fun j hj => (k6.out j (by omega)).trans ((hT).below.block j hj)⟩, (k6.out _ (by omega)).trans (hT).one, (k6.out _ (by omega)).trans (hT).two⟩
  obtain ⟨y0, y1, y2, y3, y4, -⟩ := row_cells n14
  go_upto_region 15 with fail
  clear y0 y1 y2 y3 y4 u0 u1 u2 u3 u4 d0 d1 d2 d3 d4 f0 f1 f2 f3 f4
  rw [hW6.out]
  clear hW6
  have n6 := (k6.out g4 (by omega)).trans n14
  have hn6 := rows_keep hn14.out hi14.out k6.out
  have hse := with_fin (w0 := w0) (w := X1) (W := W6) (S := fun j => j < w0.heap.size) (k := 5) (ns := KN) (its := KI.set i nilT') (nm := .slice a4 KN.length c4) (gi := gi) (ci := cig) hBc (fun j hj => hj) B6 (by rw [List.length_set]; exact r6.out) (seenR_row hn6) (fun W' hk2 hs2 ha => ItemsRep.set (zero_rep W') i him.out (ItemsRep.mono hk2 hs2 hIt.out))
  rw [List.length_set, hQ2.out] at hse
  replace hse := hid_e (useen_low hltT hse)
  obtain ⟨y0, y1, y2, y3, y4, -⟩ := row_cells n6
  obtain ⟨z0, z1, z2, z3, z4, zf⟩ := row_cells hA6.two
  have zf0 := zf 0; have zf1 := zf 1; have zf2 := zf 2; have zf3 := zf 3; have zf4 := zf 4
  clear zf
  go_wp2_with fail
  obtain ⟨hfe, hbe⟩ := nest_end hA6 h0.size hse.out (.int .i64 5) (.int .i64 0) (.string ⟨#[]⟩) (.slice a4 KN.length c4) (.slice (some ⟨gi, 0, none⟩) KI.length cig)
  have hr5 := put5_cells hA6.two (.int .i64 5) (.int .i64 0) (.string ⟨#[]⟩) (.slice a4 KN.length c4) (.slice (some ⟨gi, 0, none⟩) KI.length cig)
  have r0 := hr5 0; have r1 := hr5 1; have r2 := hr5 2; have r3 := hr5 3; have r4 := hr5 4
  clear hr5
  refine bodyPost_ret (v := .tuple #[.agg #[.int .i64 5, .int .i64 0, .string ⟨#[]⟩, .slice a4 KN.length c4, .slice (some ⟨gi, 0, none⟩) KI.length cig], .bool true]) (by simp [results, Try.results21, go_sem, r0, r1, r2, r3, r4]) rfl ?_
  exact ⟨_, _, _, _, _, _, _, _, _, rfl, hfe, hbe⟩
end Go.Proofs.Ytmlbofbnklmedaa
