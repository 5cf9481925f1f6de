import Derived.Test.YtmlbofbnklmedaaT9
import Derived.Test.YtmlbofbnklmedaaS14
/-! The document's Unset: an object's member. -/
namespace Go.Proofs.Ytmlbofbnklmedaa
open Go Go.RowKit

theorem erase_cut {α : Type} (l : List α) (i : Nat) : l.eraseIdx i = l.take i ++ l.drop (i + 1) := List.eraseIdx_eq_take_drop_succ l i
/-- The tail of a row. -/
theorem lies_tail {W : World} {lo : Nat} {e : TypeId} {size g n cap j : Nat} {xs : List Value} (h : W.ownsRow lo e size (.slice (some ⟨g, 0, none⟩) n cap) n xs) (hj : j ≤ n) (o : Nat) (ho : (if cap = j then 0 else j * size) = o) : LiesAt W (some ⟨g, o, none⟩) (xs.drop (j * size)) := by
  have hc := row_cap h
  by_cases hcj : cap = j
  · exact .inl (List.eq_nil_of_length_eq_zero (by
      have := h.1
      have e : j = n := by omega
      rw [List.length_drop, this, e]; omega))
  · rw [if_neg hcj] at ho
    subst ho
    refine .inr ⟨g, _, rfl, fun q u hq => ?_⟩
    rw [List.getElem?_drop] at hq
    exact row_cell h _ u hq
theorem lies_head {W : World} {lo : Nat} {e : TypeId} {size g n cap : Nat} {xs : List Value} (h : W.ownsRow lo e size (.slice (some ⟨g, 0, none⟩) n cap) n xs) (j : Nat) : LiesAt W (some ⟨g, 0, none⟩) (xs.take (j * size)) :=
  .inr ⟨g, 0, rfl, fun q u hq => by
    rw [Nat.zero_add]
    have hl := (List.getElem?_eq_some_iff.1 hq).1
    rw [List.length_take] at hl
    rw [List.getElem?_take_of_lt (by omega)] at hq
    exact row_cell h q u hq⟩
set_option maxHeartbeats 16000000 in
set_option maxRecDepth 100000 in
theorem runset_last6 (x : Int) (tx : ByteArray) (an : Option Addr) (cn : Nat) (ns : List ByteArray) (ai : Option Addr) (ci : Nat) (its : List Tr) (b o c : Nat) (s : ByteArray) (r : List ByteArray) (w0 w : World) (h0 : Below w0.heap.size w0 w) (hs : s.size ≤ 9223372036854775806) (hp : w0.cell? ⟨b, o, none⟩ = some (.string s)) (hV : Hid (VRep w0 (.node 6 x tx ns its) (five 6 x tx (.slice an ns.length cn) (.slice ai its.length ci)))) (hN : Hid (Reads w0 (.slice an ns.length cn) ns)) (hil : its.length ≤ 9223372036854775807) (hb80 : (its.length + 1) * 80 ≤ 140737488355328) (i : Nat) (u : Tr) (hu : Hid (its[i]? = some u)) (hpl : Hid (rplace 6 ns its.length s = (i : Int))) (him : Hid (i < (keepIts 6 ns its).length)) (hr0 : r = []) :
    Calls Try.prog 21 #[.agg #[.int .i64 6, .int .i64 x, .string tx, .slice an ns.length cn, .slice ai its.length ci], .slice (some ⟨b, o, none⟩) (r.length + 1) c] w (RU w0 w true (outT 6 ns its i)) := by
  subst hr0
  obtain ⟨Q, hQ⟩ : ∃ Q, Hid (outT 6 ns its i = Q) := ⟨_, hid_e rfl⟩
  rw [hQ.out]
  have hQ2 : Hid (.node 6 0 ⟨#[]⟩ ((keepNs 6 ns its).eraseIdx i) ((keepIts 6 ns its).eraseIdx i) = Q) := by rw [Hid, ← hQ.out]; unfold outT; rw [if_neg (by decide)]
  clear hQ
  have hkk : Hid ((keepNs 6 ns its).length = (keepIts 6 ns its).length) := keep6 ns its
  have hkb : Hid ((keepIts 6 ns its).length ≤ its.length) := by rw [Hid]; unfold keepIts; rw [if_pos rfl, List.length_take]; omega
  have hlt : i < its.length := (List.getElem?_eq_some_iff.1 hu.out).1
  obtain ⟨g2, q2, rfl, hlt2, hVL⟩ : ∃ g q, ai = some ⟨g, q, none⟩ ∧ g < w0.heap.size ∧ VRepL w0 g q its := by
    have h := hV.out
    unfold VRep at h
    obtain ⟨nm, a9, c9, e, h1, h2, h3⟩ := h
    simp only [five, List.cons.injEq, Value.slice.injEq, true_and, and_true] at e
    obtain ⟨rfl, rfl, rfl⟩ := e
    exact h3.resolve_left (by intro e; subst e; simp at hlt)
  obtain ⟨cs, hia, hr⟩ := VRepL.at its q2 i u hVL hu.out
  obtain ⟨k2, x2, s2, an2, ln2, cn2, ai2, li2, ci2, rfl⟩ := vrep_five hr
  replace hia := hid_e hia
  have j0 : (0 : Int) ≤ (i : Int) := by omega
  have j1 : (i : Int) < (its.length : Int) := by omega
  have j2 : ¬ ((i : Int) < 0) := by omega
  have hT := an_new w #[.int .i64 6, .int .i64 x, .string tx, .slice an ns.length cn, .slice (some ⟨g2, q2, none⟩) its.length ci]
  have hne : ((((([] : List ByteArray).length + 1 : Nat) : Int)) == 0) = false := by simp <;> omega
  have hne2 : (((([] : List ByteArray).length : Int) + 1) == 0) = false := by simp <;> omega
  have i0 : (0 : Int) < ((([] : List ByteArray).length + 1 : Nat) : Int) := by omega
  have i00 : (0 : Int) < (([] : List ByteArray).length : Int) + 1 := by omega
  go_enter Try.func21, Try.ntmps21
  go_upto_region 1 with fail
  generalize (w.alloc (.cells #[.int .i64 6, .int .i64 x, .string tx, .slice an ns.length cn, .slice (some ⟨g2, q2, none⟩) its.length ci] 25)).alloc (.cells #[.int .i64 0, .int .i64 0, .string ⟨#[]⟩, .slice none 0 0, .slice none 0 0] 25) = X0 at hT ⊢
  have c0 : X0.cell? ⟨b, o, none⟩ = some (.string s) := ((h0.trans (hT.below.mono h0.size)).cell (cell_lt hp)).trans hp
  go_upto_region 3 with fail
  replace hT := hT.drew
  replace c0 : X0.drew.cell? ⟨b, o, none⟩ = some (.string s) := c0
  generalize hX : X0.drew = X9 at hT c0
  refine wp_region_noPanic ?_
  refine Until.wp_region_U (fun w' => An w #[.int .i64 6, .int .i64 x, .string tx, .slice an ns.length cn, .slice (some ⟨g2, q2, none⟩) its.length ci] w' ∧ w'.cell? ⟨b, o, none⟩ = some (.string s)) (fun _ => True) 100 (by kernel_rfl) ?_
  rw [hX]
  clear hX
  refine Until.wpU_load0 (i := 0) (oi := { dst := some 14, op := Op.load 25 (Operand.tmp 2), type := 25, pos := "ref.go:192", after := #[], guard := none }) (v := .agg #[.int .i64 6, .int .i64 x, .string tx, .slice an ns.length cn, .slice (some ⟨g2, q2, none⟩) its.length ci]) rfl (by kernel_rfl) (by kernel_rfl) (by kernel_rfl) (by kernel_rfl) (by kernel_rfl) (fun _ _ _ h => h) ⟨hT, c0⟩ (fun _ => trivial) (by rfl) (by intro w' hw'; obtain ⟨t0, t1, t2, t3, t4, -⟩ := row_cells hw'.1.one; clear hw'; go_simp) ?_
  try simp only [Act.put, List.setIfInBounds_toArray, List.set_cons_zero, List.set_cons_succ]
  refine Until.wpU_pure (i := 1) (oi := { dst := some 15, op := Op.move (Operand.tmp 1), type := 22, pos := "ref.go:192", after := #[], guard := none }) (v := .slice (some ⟨b, o, none⟩) (([] : List ByteArray).length + 1) c) rfl (by kernel_rfl) (by kernel_rfl) (by kernel_rfl) (by kernel_rfl) (by kernel_rfl) (fun _ _ _ h => h) ⟨hT, c0⟩ (fun _ => trivial) (by rfl) (by intro w'; go_simp) ?_
  try simp only [Act.put, List.setIfInBounds_toArray, List.set_cons_zero, List.set_cons_succ]
  refine Until.wpU_pure (i := 2) (oi := { dst := some 16, op := Op.indexAddr 22 (Operand.tmp 15) (Operand.const (Value.int IntKind.i64 0)), type := 0, pos := "ref.go:192", after := #[{ on := 1, ground := Ground.data }], guard := none }) (v := .pointer (some ⟨b, o, none⟩)) rfl (by kernel_rfl) (by kernel_rfl) (by kernel_rfl) (by kernel_rfl) (by kernel_rfl) (fun _ _ _ h => h) ⟨hT, c0⟩ (fun _ => trivial) (by rfl) (by intro w'; go_simp) ?_
  try simp only [Act.put, List.setIfInBounds_toArray, List.set_cons_zero, List.set_cons_succ]
  refine Until.wpU_load0 (i := 3) (oi := { dst := some 17, op := Op.load 9 (Operand.tmp 16), type := 9, pos := "ref.go:192", after := #[{ on := 2, ground := Ground.data }], guard := none }) (v := .string s) rfl (by kernel_rfl) (by kernel_rfl) (by kernel_rfl) (by kernel_rfl) (by kernel_rfl) (fun _ _ _ h => h) ⟨hT, c0⟩ (fun _ => trivial) (by rfl) (by intro w' hw'; have t0 := hw'.2; clear hw'; go_simp) ?_
  try simp only [Act.put, List.setIfInBounds_toArray, List.set_cons_zero, List.set_cons_succ]
  refine Until.wpU_ready (rs := [4]) (by kernel_rfl) (by simp) ?_
  refine (Until.AllU.cons (o := { dst := some 18, op := Op.call { callee := Callee.value (Operand.func 36), args := #[Operand.tmp 14, Operand.tmp 17], argTypes := #[25, 9] }, type := 3, pos := "ref.go:192", after := #[{ on := 0, ground := Ground.data }, { on := 3, ground := Ground.data }], guard := none }) rfl (fun K hK => ?_) Until.AllU.nil)
  go_simp
  refine (rplace_any 6 x tx an cn ns (some ⟨g2, q2, none⟩) its.length ci s _ (hid_f (hN.out.keep (h0.trans (hT.below.mono h0.size)))) hil hs).mono ?_
  rintro e X1 ⟨rfl, hb⟩
  rw [hpl.out]
  replace hT := hT.keep hb
  replace c0 := (hb.cell (cell_lt c0)).trans c0
  clear hb
  refine hK.out _ _ ⟨hT, c0⟩ (fun _ => trivial) ?_
  clear hK K
  try simp only [Act.put, List.setIfInBounds_toArray, List.set_cons_zero, List.set_cons_succ]
  refine Until.wpU_ready (rs := [5]) (by kernel_rfl) (by simp) ?_
  refine (Until.AllU.cons (o := { dst := some 6, op := Op.assign (Operand.tmp 18), type := 3, pos := "ref.go:192", after := #[{ on := 4, ground := Ground.data }, { on := 4, ground := Ground.chain }, { on := 0, ground := Ground.phase }, { on := 1, ground := Ground.phase }, { on := 2, ground := Ground.phase }, { on := 3, ground := Ground.phase }, { on := 4, ground := Ground.phase }], guard := none }) rfl (fun K hK => ?_) Until.AllU.nil)
  go_simp
  refine hK.out _ _ ⟨hT, c0⟩ (fun _ => trivial) ?_
  clear hK K
  try simp only [Act.put, List.setIfInBounds_toArray, List.set_cons_zero, List.set_cons_succ]
  refine Until.wpU_done (by kernel_rfl) ?_ _
  refine NoPanic.normal ?_
  clear hia hr
  have hBc := h0.trans (hT.below.mono h0.size)
  obtain ⟨xs, hIt, hca⟩ := ranew_any 6 x tx ns its _ (.inr rfl) hb80 w0 X1 hBc hV.out
  obtain ⟨KN, hKN⟩ : ∃ l, Hid (keepNs 6 ns its = l) := ⟨_, hid_e rfl⟩
  obtain ⟨KI, hKI⟩ : ∃ l, Hid (keepIts 6 ns its = l) := ⟨_, hid_e rfl⟩
  rw [hKN.out, hKI.out] at hca hQ2 hkk
  rw [hKI.out] at hIt him hkb
  clear hKN hKI
  replace hIt := hid_e hIt
  replace hca := hid_e hca
  have hi2b : (i : Int) < (KI.length : Int) := by have := him.out; omega
  obtain ⟨y0, y1, y2, y3, y4, -⟩ := row_cells hT.one
  go_wp2_with fail
  clear y0 y1 y2 y3 y4
  go_fit hca.out
  rintro e Y2 ⟨nv, gi, cig, rfl, hb2, hn14, hi14⟩
  obtain ⟨a4, c4, rfl⟩ := ownsRow_slice hn14
  have hgi := ownsRow_ge hi14 (g := gi) rfl
  have hltT := hT.lt
  have hb4 : Below X1.heap.size X1 (Y2.alloc (.cells #[.int .i64 6, .int .i64 0, .string ⟨#[]⟩, .slice a4 KN.length c4, .slice (some ⟨gi, 0, none⟩) KI.length cig] 25)) := hb2.alloc hb2.size _
  have n14 := heap_alloc_new Y2 (.cells #[.int .i64 6, .int .i64 0, .string ⟨#[]⟩, .slice a4 KN.length c4, .slice (some ⟨gi, 0, none⟩) KI.length cig] 25)
  replace hT := hT.keep hb4
  replace c0 := (hb4.cell (cell_lt c0)).trans c0
  replace hn14 := hid_e (hn14.alloc (.cells #[.int .i64 6, .int .i64 0, .string ⟨#[]⟩, .slice a4 KN.length c4, .slice (some ⟨gi, 0, none⟩) KI.length cig] 25))
  replace hi14 := hid_e (hi14.alloc (.cells #[.int .i64 6, .int .i64 0, .string ⟨#[]⟩, .slice a4 KN.length c4, .slice (some ⟨gi, 0, none⟩) KI.length cig] 25))
  have hz4 : (Y2.alloc (.cells #[.int .i64 6, .int .i64 0, .string ⟨#[]⟩, .slice a4 KN.length c4, .slice (some ⟨gi, 0, none⟩) KI.length cig] 25)).heap.size = Y2.heap.size + 1 := World.size_alloc _ _
  clear hca hb2
  go_upto_region 7 with fail
  generalize Y2.alloc (.cells #[.int .i64 6, .int .i64 0, .string ⟨#[]⟩, .slice a4 KN.length c4, .slice (some ⟨gi, 0, none⟩) KI.length cig] 25) = W4 at hb4 n14 hT c0 hn14 hi14 hz4 ⊢
  obtain ⟨g4, hq9⟩ : ∃ g, Y2.heap.size = g := ⟨_, rfl⟩
  rw [hq9] at n14 hgi hz4
  rw [hq9]
  clear hq9
  have hg4 : w.heap.size + 2 ≤ g4 := by omega
  obtain ⟨i9, hi9, hz0, hz1, hz2⟩ := info_parts A9
  obtain ⟨iV, hiV, hv0, hv1, hv2⟩ := info_parts AV
  obtain ⟨gN, rfl⟩ : ∃ g, a4 = some ⟨g, 0, none⟩ := by
    rcases hn14.out.2 with ⟨hv, _⟩ | ⟨g, cap, cur, hv, _⟩
    · simp only [Value.slice.injEq] at hv
      obtain ⟨_, hv, _⟩ := hv
      have h1 := him.out
      have h2 := hkk.out
      omega
    · simp only [Value.slice.injEq] at hv
      exact ⟨g, hv.1⟩
  have hlt4 : g4 < W4.heap.size := by omega
  have hcN := row_cap hn14.out
  have hcI := row_cap hi14.out
  have hki : i + 1 ≤ KN.length := by have h1 := him.out; have h2 := hkk.out; omega
  have hii : i + 1 ≤ KI.length := him.out
  have e1 : i ≤ c4 := by omega
  have e2 : i ≤ cig := by omega
  obtain ⟨oN, hoN⟩ : ∃ o, Hid ((if c4 = i + 1 then 0 else (i + 1) * 1) = o) := ⟨_, hid_e rfl⟩
  obtain ⟨oI, hoI⟩ : ∃ o, Hid ((if cig = i + 1 then 0 else (i + 1) * 5) = o) := ⟨_, hid_e rfl⟩
  have lN1 := hid_e (lies_head hn14.out i)
  have lI1 := hid_e (lies_head hi14.out i)
  have lN2 := hid_e (lies_tail hn14.out hki oN hoN.out)
  have lI2 := hid_e (lies_tail hi14.out hii oI hoI.out)
  have hxl := ItemsRep.length hIt.out
  have tN1 : ((strs KN).take (i * 1)).length = i * 1 := by rw [List.length_take, strs_length]; omega
  have tN2 : ((strs KN).drop ((i + 1) * 1)).length = (KN.length - (i + 1)) * 1 := by rw [List.length_drop, strs_length]; omega
  have tI1 : (xs.take (i * 5)).length = i * 5 := by rw [List.length_take]; omega
  have tI2 : (xs.drop ((i + 1) * 5)).length = (KI.length - (i + 1)) * 5 := by rw [List.length_drop]; omega
  have oN1 : Hid (∀ u ∈ (strs KN).take (i * 1), u.oneCell' = true) := fun u hu => strs1 KN u (List.mem_of_mem_take hu)
  have oN2 : Hid (∀ u ∈ (strs KN).drop ((i + 1) * 1), u.oneCell' = true) := fun u hu => strs1 KN u (List.mem_of_mem_drop hu)
  have oI1 : Hid (∀ u ∈ xs.take (i * 5), u.oneCell' = true) := fun u hu => ItemsRep.ones hIt.out u (List.mem_of_mem_take hu)
  have oI2 : Hid (∀ u ∈ xs.drop ((i + 1) * 5), u.oneCell' = true) := fun u hu => ItemsRep.ones hIt.out u (List.mem_of_mem_drop hu)
  have hkb2 := hkb.out
  have hkk2 := hkk.out
  have bN1 : Hid (0 + i ≤ maxLen ∧ (0 + i) * 16 ≤ 140737488355328) := by rw [Hid]; unfold maxLen; omega
  have bN2 : Hid (i + (KN.length - (i + 1)) ≤ maxLen ∧ (i + (KN.length - (i + 1))) * 16 ≤ 140737488355328) := by rw [Hid]; unfold maxLen; omega
  have bI1 : Hid (0 + i ≤ maxLen ∧ (0 + i) * 80 ≤ 140737488355328) := by rw [Hid]; unfold maxLen; omega
  have bI2 : Hid (i + (KI.length - (i + 1)) ≤ maxLen ∧ (i + (KI.length - (i + 1))) * 80 ≤ 140737488355328) := by rw [Hid]; unfold maxLen; omega
  have zN : Hid (i + (KN.length - (i + 1)) = (KN.eraseIdx i).length) := by rw [Hid]; rw [List.length_eraseIdx_of_lt (by omega)]; omega
  have zI : Hid (i + (KI.length - (i + 1)) = (KI.eraseIdx i).length) := by rw [Hid]; rw [List.length_eraseIdx_of_lt (by omega)]; omega
  have hwr : IntKind.i64.wrap ((i : Int) + 1) = (i : Int) + 1 := by rw [IntKind.wrap_i64]; omega
  have j3 : (i : Int) + 1 ≤ 9223372036854775807 := by omega
  have j4 : (-9223372036854775808 : Int) ≤ (i : Int) + 1 := by omega
  have j5 : (i : Int) + 1 ≤ (KN.length : Int) := by omega
  have j6 : (i : Int) + 1 ≤ (KI.length : Int) := by omega
  have j7 : (0 : Int) ≤ (i : Int) + 1 := by omega
  clear hkk2 hkb2
  have hB0 := hBc.trans (hb4.mono hBc.size)
  obtain ⟨y0, y1, y2, y3, y4, -⟩ := row_cells hT.one
  go_upto_region 16 with fail
  clear y0 y1 y2 y3 y4
  have hA : Below W4.heap.size W4 W4.drew := ⟨rfl, rfl, rfl, Nat.le_refl _, fun _ _ => rfl⟩
  generalize hX : W4.drew = X at hA
  refine wp_region_noPanic ?_
  refine Until.wp_region_U (fun w' => w'.heap[g4]? = some (.cells #[.int .i64 6, .int .i64 0, .string ⟨#[]⟩, .slice (some ⟨gN, 0, none⟩) KN.length c4, .slice (some ⟨gi, 0, none⟩) KI.length cig] 25 (0, 0))) (fun _ => True) 100 (by kernel_rfl) ?_
  rw [hX]
  clear hX
  refine Until.wpU_pure (i := 0) (oi := { dst := some 56, op := Op.fieldAddr 25 (Operand.tmp 7) 0, type := 0, pos := "ref.go:209", after := #[], guard := none }) (v := .pointer (some ⟨g4, 0, none⟩)) rfl (by kernel_rfl) (by kernel_rfl) (by kernel_rfl) (by kernel_rfl) (by kernel_rfl) (fun _ _ _ h => h) ((hA.block _ hlt4).trans n14) (fun _ => trivial) (by rfl) (by intro w'; go_simp) ?_
  try simp only [Act.put, List.setIfInBounds_toArray, List.set_cons_zero, List.set_cons_succ]
  refine Until.wpU_load0 (i := 1) (oi := { dst := some 57, op := Op.load 3 (Operand.tmp 56), type := 3, pos := "ref.go:209", after := #[{ on := 0, ground := Ground.data }], guard := none }) (v := .int .i64 6) rfl (by kernel_rfl) (by kernel_rfl) (by kernel_rfl) (by kernel_rfl) (by kernel_rfl) (fun _ _ _ h => h) ((hA.block _ hlt4).trans n14) (fun _ => trivial) (by rfl) (by intro w' hw'; obtain ⟨t0, t1, t2, t3, t4, -⟩ := row_cells hw'; clear hw'; go_simp) ?_
  try simp only [Act.put, List.setIfInBounds_toArray, List.set_cons_zero, List.set_cons_succ]
  refine Until.wpU_pure (i := 3) (oi := { dst := some 59, op := Op.fieldAddr 25 (Operand.tmp 7) 3, type := 0, pos := "ref.go:209", after := #[], guard := none }) (v := .pointer (some ⟨g4, 3, none⟩)) rfl (by kernel_rfl) (by kernel_rfl) (by kernel_rfl) (by kernel_rfl) (by kernel_rfl) (fun _ _ _ h => h) ((hA.block _ hlt4).trans n14) (fun _ => trivial) (by rfl) (by intro w'; go_simp) ?_
  try simp only [Act.put, List.setIfInBounds_toArray, List.set_cons_zero, List.set_cons_succ]
  refine Until.wpU_load0 (i := 4) (oi := { dst := some 60, op := Op.load 22 (Operand.tmp 59), type := 22, pos := "ref.go:209", after := #[{ on := 3, ground := Ground.data }], guard := none }) (v := .slice (some ⟨gN, 0, none⟩) KN.length c4) rfl (by kernel_rfl) (by kernel_rfl) (by kernel_rfl) (by kernel_rfl) (by kernel_rfl) (fun _ _ _ h => h) ((hA.block _ hlt4).trans n14) (fun _ => trivial) (by rfl) (by intro w' hw'; obtain ⟨t0, t1, t2, t3, t4, -⟩ := row_cells hw'; clear hw'; go_simp) ?_
  try simp only [Act.put, List.setIfInBounds_toArray, List.set_cons_zero, List.set_cons_succ]
  refine Until.wpU_pure (i := 5) (oi := { dst := some 61, op := Op.move (Operand.tmp 6), type := 3, pos := "ref.go:209", after := #[], guard := none }) (v := .int .i64 i) rfl (by kernel_rfl) (by kernel_rfl) (by kernel_rfl) (by kernel_rfl) (by kernel_rfl) (fun _ _ _ h => h) ((hA.block _ hlt4).trans n14) (fun _ => trivial) (by rfl) (by intro w'; go_simp) ?_
  try simp only [Act.put, List.setIfInBounds_toArray, List.set_cons_zero, List.set_cons_succ]
  refine Until.wpU_pure (i := 6) (oi := { dst := some 62, op := Op.slice 22 (Operand.tmp 60) none (some (Operand.tmp 61)) none, type := 22, pos := "ref.go:209", after := #[{ on := 4, ground := Ground.data }, { on := 5, ground := Ground.data }], guard := none }) (v := .slice (some ⟨gN, 0, none⟩) i c4) rfl (by kernel_rfl) (by kernel_rfl) (by kernel_rfl) (by kernel_rfl) (by kernel_rfl) (fun _ _ _ h => h) ((hA.block _ hlt4).trans n14) (fun _ => trivial) (by rfl) (by intro w'; go_simp) ?_
  try simp only [Act.put, List.setIfInBounds_toArray, List.set_cons_zero, List.set_cons_succ]
  refine Until.wpU_pure (i := 8) (oi := { dst := some 64, op := Op.fieldAddr 25 (Operand.tmp 7) 3, type := 0, pos := "ref.go:209", after := #[], guard := none }) (v := .pointer (some ⟨g4, 3, none⟩)) rfl (by kernel_rfl) (by kernel_rfl) (by kernel_rfl) (by kernel_rfl) (by kernel_rfl) (fun _ _ _ h => h) ((hA.block _ hlt4).trans n14) (fun _ => trivial) (by rfl) (by intro w'; go_simp) ?_
  try simp only [Act.put, List.setIfInBounds_toArray, List.set_cons_zero, List.set_cons_succ]
  refine Until.wpU_load0 (i := 9) (oi := { dst := some 65, op := Op.load 22 (Operand.tmp 64), type := 22, pos := "ref.go:209", after := #[{ on := 8, ground := Ground.data }], guard := none }) (v := .slice (some ⟨gN, 0, none⟩) KN.length c4) rfl (by kernel_rfl) (by kernel_rfl) (by kernel_rfl) (by kernel_rfl) (by kernel_rfl) (fun _ _ _ h => h) ((hA.block _ hlt4).trans n14) (fun _ => trivial) (by rfl) (by intro w' hw'; obtain ⟨t0, t1, t2, t3, t4, -⟩ := row_cells hw'; clear hw'; go_simp) ?_
  try simp only [Act.put, List.setIfInBounds_toArray, List.set_cons_zero, List.set_cons_succ]
  refine Until.wpU_pure (i := 10) (oi := { dst := some 66, op := Op.move (Operand.tmp 6), type := 3, pos := "ref.go:209", after := #[], guard := none }) (v := .int .i64 i) rfl (by kernel_rfl) (by kernel_rfl) (by kernel_rfl) (by kernel_rfl) (by kernel_rfl) (fun _ _ _ h => h) ((hA.block _ hlt4).trans n14) (fun _ => trivial) (by rfl) (by intro w'; go_simp) ?_
  try simp only [Act.put, List.setIfInBounds_toArray, List.set_cons_zero, List.set_cons_succ]
  refine Until.wpU_pure (i := 11) (oi := { dst := some 67, op := Op.binOp BinOp.add 3 (Operand.tmp 66) (Operand.const (Value.int IntKind.i64 1)) 3, type := 3, pos := "ref.go:209", after := #[{ on := 10, ground := Ground.data }], guard := none }) (v := .int .i64 ((i : Int) + 1)) rfl (by kernel_rfl) (by kernel_rfl) (by kernel_rfl) (by kernel_rfl) (by kernel_rfl) (fun _ _ _ h => h) ((hA.block _ hlt4).trans n14) (fun _ => trivial) (by rfl) (by intro w'; go_simp) ?_
  try simp only [Act.put, List.setIfInBounds_toArray, List.set_cons_zero, List.set_cons_succ]
  refine Until.wpU_pure (i := 12) (oi := { dst := some 68, op := Op.slice 22 (Operand.tmp 65) (some (Operand.tmp 67)) none none, type := 22, pos := "ref.go:209", after := #[{ on := 9, ground := Ground.data }, { on := 11, ground := Ground.data }], guard := none }) (v := .slice (some ⟨gN, oN, none⟩) (KN.length - (i + 1)) (c4 - (i + 1))) rfl (by kernel_rfl) (by kernel_rfl) (by kernel_rfl) (by kernel_rfl) (by kernel_rfl) (fun _ _ _ h => h) ((hA.block _ hlt4).trans n14) (fun _ => trivial) (by rfl) (by 
    intro w'
    rw [← hoN.out]
    by_cases hc1 : c4 = i + 1
    · rw [if_pos hc1]
      go_simp
    · rw [if_neg hc1]
      go_simp) ?_
  try simp only [Act.put, List.setIfInBounds_toArray, List.set_cons_zero, List.set_cons_succ]
  refine Until.wpU_pure (i := 15) (oi := { dst := some 71, op := Op.fieldAddr 25 (Operand.tmp 7) 4, type := 0, pos := "ref.go:209", after := #[], guard := none }) (v := .pointer (some ⟨g4, 4, none⟩)) rfl (by kernel_rfl) (by kernel_rfl) (by kernel_rfl) (by kernel_rfl) (by kernel_rfl) (fun _ _ _ h => h) ((hA.block _ hlt4).trans n14) (fun _ => trivial) (by rfl) (by intro w'; go_simp) ?_
  try simp only [Act.put, List.setIfInBounds_toArray, List.set_cons_zero, List.set_cons_succ]
  refine Until.wpU_load0 (i := 16) (oi := { dst := some 72, op := Op.load 23 (Operand.tmp 71), type := 23, pos := "ref.go:209", after := #[{ on := 15, ground := Ground.data }], guard := none }) (v := .slice (some ⟨gi, 0, none⟩) KI.length cig) rfl (by kernel_rfl) (by kernel_rfl) (by kernel_rfl) (by kernel_rfl) (by kernel_rfl) (fun _ _ _ h => h) ((hA.block _ hlt4).trans n14) (fun _ => trivial) (by rfl) (by intro w' hw'; obtain ⟨t0, t1, t2, t3, t4, -⟩ := row_cells hw'; clear hw'; go_simp) ?_
  try simp only [Act.put, List.setIfInBounds_toArray, List.set_cons_zero, List.set_cons_succ]
  refine Until.wpU_pure (i := 17) (oi := { dst := some 73, op := Op.move (Operand.tmp 6), type := 3, pos := "ref.go:209", after := #[], guard := none }) (v := .int .i64 i) rfl (by kernel_rfl) (by kernel_rfl) (by kernel_rfl) (by kernel_rfl) (by kernel_rfl) (fun _ _ _ h => h) ((hA.block _ hlt4).trans n14) (fun _ => trivial) (by rfl) (by intro w'; go_simp) ?_
  try simp only [Act.put, List.setIfInBounds_toArray, List.set_cons_zero, List.set_cons_succ]
  refine Until.wpU_pure (i := 18) (oi := { dst := some 74, op := Op.slice 23 (Operand.tmp 72) none (some (Operand.tmp 73)) none, type := 23, pos := "ref.go:209", after := #[{ on := 16, ground := Ground.data }, { on := 17, ground := Ground.data }], guard := none }) (v := .slice (some ⟨gi, 0, none⟩) i cig) rfl (by kernel_rfl) (by kernel_rfl) (by kernel_rfl) (by kernel_rfl) (by kernel_rfl) (fun _ _ _ h => h) ((hA.block _ hlt4).trans n14) (fun _ => trivial) (by rfl) (by intro w'; go_simp) ?_
  try simp only [Act.put, List.setIfInBounds_toArray, List.set_cons_zero, List.set_cons_succ]
  refine Until.wpU_pure (i := 20) (oi := { dst := some 76, op := Op.fieldAddr 25 (Operand.tmp 7) 4, type := 0, pos := "ref.go:209", after := #[], guard := none }) (v := .pointer (some ⟨g4, 4, none⟩)) rfl (by kernel_rfl) (by kernel_rfl) (by kernel_rfl) (by kernel_rfl) (by kernel_rfl) (fun _ _ _ h => h) ((hA.block _ hlt4).trans n14) (fun _ => trivial) (by rfl) (by intro w'; go_simp) ?_
  try simp only [Act.put, List.setIfInBounds_toArray, List.set_cons_zero, List.set_cons_succ]
  refine Until.wpU_load0 (i := 21) (oi := { dst := some 77, op := Op.load 23 (Operand.tmp 76), type := 23, pos := "ref.go:209", after := #[{ on := 20, ground := Ground.data }], guard := none }) (v := .slice (some ⟨gi, 0, none⟩) KI.length cig) rfl (by kernel_rfl) (by kernel_rfl) (by kernel_rfl) (by kernel_rfl) (by kernel_rfl) (fun _ _ _ h => h) ((hA.block _ hlt4).trans n14) (fun _ => trivial) (by rfl) (by intro w' hw'; obtain ⟨t0, t1, t2, t3, t4, -⟩ := row_cells hw'; clear hw'; go_simp) ?_
  try simp only [Act.put, List.setIfInBounds_toArray, List.set_cons_zero, List.set_cons_succ]
  refine Until.wpU_pure (i := 22) (oi := { dst := some 78, op := Op.move (Operand.tmp 6), type := 3, pos := "ref.go:209", after := #[], guard := none }) (v := .int .i64 i) rfl (by kernel_rfl) (by kernel_rfl) (by kernel_rfl) (by kernel_rfl) (by kernel_rfl) (fun _ _ _ h => h) ((hA.block _ hlt4).trans n14) (fun _ => trivial) (by rfl) (by intro w'; go_simp) ?_
  try simp only [Act.put, List.setIfInBounds_toArray, List.set_cons_zero, List.set_cons_succ]
  refine Until.wpU_pure (i := 23) (oi := { dst := some 79, op := Op.binOp BinOp.add 3 (Operand.tmp 78) (Operand.const (Value.int IntKind.i64 1)) 3, type := 3, pos := "ref.go:209", after := #[{ on := 22, ground := Ground.data }], guard := none }) (v := .int .i64 ((i : Int) + 1)) rfl (by kernel_rfl) (by kernel_rfl) (by kernel_rfl) (by kernel_rfl) (by kernel_rfl) (fun _ _ _ h => h) ((hA.block _ hlt4).trans n14) (fun _ => trivial) (by rfl) (by intro w'; go_simp) ?_
  try simp only [Act.put, List.setIfInBounds_toArray, List.set_cons_zero, List.set_cons_succ]
  refine Until.wpU_pure (i := 24) (oi := { dst := some 80, op := Op.slice 23 (Operand.tmp 77) (some (Operand.tmp 79)) none none, type := 23, pos := "ref.go:209", after := #[{ on := 21, ground := Ground.data }, { on := 23, ground := Ground.data }], guard := none }) (v := .slice (some ⟨gi, oI, none⟩) (KI.length - (i + 1)) (cig - (i + 1))) rfl (by kernel_rfl) (by kernel_rfl) (by kernel_rfl) (by kernel_rfl) (by kernel_rfl) (fun _ _ _ h => h) ((hA.block _ hlt4).trans n14) (fun _ => trivial) (by rfl) (by 
    intro w'
    rw [← hoI.out]
    by_cases hc1 : cig = i + 1
    · rw [if_pos hc1]
      go_simp
    · rw [if_neg hc1]
      go_simp) ?_
  try simp only [Act.put, List.setIfInBounds_toArray, List.set_cons_zero, List.set_cons_succ]
  refine Until.wpU_ready (rs := [2, 14]) (by kernel_rfl) (by simp) ?_
  refine (Until.AllU.cons (o := { dst := some 58, op := Op.buildSlice 22 0 #[], type := 22, pos := "ref.go:209", after := #[], guard := none }) rfl (fun K hK => ?_) (Until.AllU.cons (o := { dst := some 70, op := Op.buildSlice 23 0 #[], type := 23, pos := "ref.go:209", after := #[], guard := none }) rfl (fun K hK => ?_) Until.AllU.nil))
  · skip
    go_simp
    have hs := hid_e (ownsRow_lo (owns_emptyV X 9 1) hA.size)
    have hgs : W4.heap.size ≤ X.heap.size := hA.size
    replace hA := hA.alloc hA.size (.cells #[] 9)
    refine hK.out _ _ ((hA.block _ hlt4).trans n14) (fun _ => trivial) ?_
    clear hK K
    try simp only [Act.put, List.setIfInBounds_toArray, List.set_cons_zero, List.set_cons_succ]
    obtain ⟨gs, hq⟩ : ∃ g, X.heap.size = g := ⟨_, rfl⟩
    rw [hq] at hs hgs
    rw [hq]
    clear hq
    generalize X.alloc (.cells #[] 9) = X' at hA hs  ⊢
    refine Until.wpU_ready (rs := [7, 14]) (by kernel_rfl) (by simp) ?_
    refine (Until.AllU.cons (o := { dst := some 63, op := Op.call { callee := Callee.builtin Builtin.append, args := #[Operand.tmp 58, Operand.tmp 62], argTypes := #[22, 22] }, type := 22, pos := "ref.go:209", after := #[{ on := 2, ground := Ground.data }, { on := 6, ground := Ground.data }], guard := none }) rfl (fun K hK => ?_) (Until.AllU.cons (o := { dst := some 70, op := Op.buildSlice 23 0 #[], type := 23, pos := "ref.go:209", after := #[], guard := none }) rfl (fun K hK => ?_) Until.AllU.nil))
    · skip
      refine step_append_all X' (by rfl) _ _ 22 (by rfl) W4.heap.size 9 i9 _ 1 16 Try.underlying22 hi9 hz0 hz1 hz2 (by rfl) (by decide) gs 0 0 [] (by rfl) hs.out (some ⟨gN, 0, none⟩) i c4 ((strs KN).take (i * 1)) (by rfl) tN1 (lies_keep lN1.out hA) oN1.out bN1.out.1 bN1.out.2 hA.size ?_
      intro gs1 cs1 Y1 hoo hgr hat
      have hgs' : W4.heap.size ≤ gs1 := by rcases hat with e | e; rw [e]; exact hgs; rw [e]; exact hA.size
      replace hA := hA.trans (grown_below hgr hA.size (fun j hj => by cases hj; exact hgs))
      replace hs := hid_e hoo
      replace hgs := hgs'
      clear hgr hat hoo hgs'
      refine hK.out _ _ ((hA.block _ hlt4).trans n14) (fun _ => trivial) ?_
      clear hK K
      try simp only [Act.put, List.setIfInBounds_toArray, List.set_cons_zero, List.set_cons_succ]
      simp only [Nat.zero_add, List.nil_append] at hs
      try simp only [Nat.zero_add]
      refine Until.wpU_ready (rs := [13, 14]) (by kernel_rfl) (by simp) ?_
      refine (Until.AllU.cons (o := { dst := some 69, op := Op.call { callee := Callee.builtin Builtin.append, args := #[Operand.tmp 63, Operand.tmp 68], argTypes := #[22, 22] }, type := 22, pos := "ref.go:209", after := #[{ on := 7, ground := Ground.data }, { on := 12, ground := Ground.data }, { on := 7, ground := Ground.chain }], guard := none }) rfl (fun K hK => ?_) (Until.AllU.cons (o := { dst := some 70, op := Op.buildSlice 23 0 #[], type := 23, pos := "ref.go:209", after := #[], guard := none }) rfl (fun K hK => ?_) Until.AllU.nil))
      · skip
        refine step_append_all Y1 (by rfl) _ _ 22 (by rfl) W4.heap.size 9 i9 _ 1 16 Try.underlying22 hi9 hz0 hz1 hz2 (by rfl) (by decide) gs1 i cs1 ((strs KN).take (i * 1)) (by rfl) hs.out (some ⟨gN, oN, none⟩) (KN.length - (i + 1)) (c4 - (i + 1)) ((strs KN).drop ((i + 1) * 1)) (by rfl) tN2 (lies_keep lN2.out hA) oN2.out bN2.out.1 bN2.out.2 hA.size ?_
        intro gs2 cs2 Y2 hoo hgr hat
        have hgs' : W4.heap.size ≤ gs2 := by rcases hat with e | e; rw [e]; exact hgs; rw [e]; exact hA.size
        replace hA := hA.trans (grown_below hgr hA.size (fun j hj => by cases hj; exact hgs))
        replace hs := hid_e hoo
        replace hgs := hgs'
        clear hgr hat hoo hgs'
        refine hK.out _ _ ((hA.block _ hlt4).trans n14) (fun _ => trivial) ?_
        clear hK K
        try simp only [Act.put, List.setIfInBounds_toArray, List.set_cons_zero, List.set_cons_succ]
        refine Until.wpU_ready (rs := [14]) (by kernel_rfl) (by simp) ?_
        refine (Until.AllU.cons (o := { dst := some 70, op := Op.buildSlice 23 0 #[], type := 23, pos := "ref.go:209", after := #[], guard := none }) rfl (fun K hK => ?_) Until.AllU.nil)
        go_simp
        have hv := hid_e (ownsRow_lo (owns_emptyV Y2 25 5) hA.size)
        have hgv : W4.heap.size ≤ Y2.heap.size := hA.size
        replace hs := hid_e (hs.out.alloc (.cells #[] 25))
        replace hA := hA.alloc hA.size (.cells #[] 25)
        refine hK.out _ _ ((hA.block _ hlt4).trans n14) (fun _ => trivial) ?_
        clear hK K
        try simp only [Act.put, List.setIfInBounds_toArray, List.set_cons_zero, List.set_cons_succ]
        obtain ⟨gv, hq⟩ : ∃ g, Y2.heap.size = g := ⟨_, rfl⟩
        rw [hq] at hv hgv
        rw [hq]
        clear hq
        generalize Y2.alloc (.cells #[] 25) = Y2' at hA hv hs ⊢
        refine Until.wpU_ready (rs := [19]) (by kernel_rfl) (by simp) ?_
        refine (Until.AllU.cons (o := { dst := some 75, op := Op.call { callee := Callee.builtin Builtin.append, args := #[Operand.tmp 70, Operand.tmp 74], argTypes := #[23, 23] }, type := 23, pos := "ref.go:209", after := #[{ on := 14, ground := Ground.data }, { on := 18, ground := Ground.data }, { on := 13, ground := Ground.chain }], guard := none }) rfl (fun K hK => ?_) Until.AllU.nil)
        refine step_append_all Y2' (by rfl) _ _ 23 (by rfl) W4.heap.size 25 iV _ 5 80 Try.underlying23 hiV hv0 hv1 hv2 (by rfl) (by decide) gv 0 0 [] (by rfl) hv.out (some ⟨gi, 0, none⟩) i cig (xs.take (i * 5)) (by rfl) tI1 (lies_keep lI1.out hA) oI1.out bI1.out.1 bI1.out.2 hA.size ?_
        intro gv1 cv1 Y3 hoo hgr hat
        replace hs := hid_e (hs.out.kept hgr (by rcases rows_apart hs.out hv.out (by decide) with h | h; exact .inl h; exact .inr h))
        have hgv' : W4.heap.size ≤ gv1 := by rcases hat with e | e; rw [e]; exact hgv; rw [e]; exact hA.size
        replace hA := hA.trans (grown_below hgr hA.size (fun j hj => by cases hj; exact hgv))
        replace hv := hid_e hoo
        replace hgv := hgv'
        clear hgr hat hoo hgv'
        refine hK.out _ _ ((hA.block _ hlt4).trans n14) (fun _ => trivial) ?_
        clear hK K
        try simp only [Act.put, List.setIfInBounds_toArray, List.set_cons_zero, List.set_cons_succ]
        simp only [Nat.zero_add, List.nil_append] at hv
        try simp only [Nat.zero_add]
        refine Until.wpU_ready (rs := [25]) (by kernel_rfl) (by simp) ?_
        refine (Until.AllU.cons (o := { dst := some 81, op := Op.call { callee := Callee.builtin Builtin.append, args := #[Operand.tmp 75, Operand.tmp 80], argTypes := #[23, 23] }, type := 23, pos := "ref.go:209", after := #[{ on := 19, ground := Ground.data }, { on := 24, ground := Ground.data }, { on := 19, ground := Ground.chain }], guard := none }) rfl (fun K hK => ?_) Until.AllU.nil)
        refine step_append_all Y3 (by rfl) _ _ 23 (by rfl) W4.heap.size 25 iV _ 5 80 Try.underlying23 hiV hv0 hv1 hv2 (by rfl) (by decide) gv1 i cv1 (xs.take (i * 5)) (by rfl) hv.out (some ⟨gi, oI, none⟩) (KI.length - (i + 1)) (cig - (i + 1)) (xs.drop ((i + 1) * 5)) (by rfl) tI2 (lies_keep lI2.out hA) oI2.out bI2.out.1 bI2.out.2 hA.size ?_
        intro gv2 cv2 Y4 hoo hgr hat
        replace hs := hid_e (hs.out.kept hgr (by rcases rows_apart hs.out hv.out (by decide) with h | h; exact .inl h; exact .inr h))
        have hgv' : W4.heap.size ≤ gv2 := by rcases hat with e | e; rw [e]; exact hgv; rw [e]; exact hA.size
        replace hA := hA.trans (grown_below hgr hA.size (fun j hj => by cases hj; exact hgv))
        replace hv := hid_e hoo
        replace hgv := hgv'
        clear hgr hat hoo hgv'
        refine hK.out _ _ ((hA.block _ hlt4).trans n14) (fun _ => trivial) ?_
        clear hK K
        try simp only [Act.put, List.setIfInBounds_toArray, List.set_cons_zero, List.set_cons_succ]
        simp only [zN.out, zI.out, strs_erase] at hs hv
        simp only [zN.out, zI.out]
        have hT9 := hT.keep hA
        have hse := with_fin (w0 := w0) (w := W4) (W := Y4) (S := fun j => j < w0.heap.size) (k := 6) (ns := KN.eraseIdx i) (its := KI.eraseIdx i) (nm := .slice (some ⟨gs2, 0, none⟩) (KN.eraseIdx i).length cs2) (gi := gv2) (ci := cv2) hB0 (fun j hj => hj) hA hv.out (seenR_row hs.out) (fun W' hk2 hs2 ha => (ItemsRep.mono hk2 hs2 hIt.out).erase i)
        rw [hQ2.out] at hse
        replace hse := hid_e (useen_low hT.lt hse)
        refine Until.wpU_pure (i := 26) (oi := { dst := some 82, op := Op.build 25 #[(0, Operand.tmp 57), (3, Operand.tmp 69), (4, Operand.tmp 81)], type := 25, pos := "ref.go:209", after := #[{ on := 1, ground := Ground.data }, { on := 13, ground := Ground.data }, { on := 25, ground := Ground.data }], guard := none }) (v := .agg #[.int .i64 6, .int .i64 0, .string ⟨#[]⟩, .slice (some ⟨gs2, 0, none⟩) (KN.eraseIdx i).length cs2, .slice (some ⟨gv2, 0, none⟩) (KI.eraseIdx i).length cv2]) rfl (by kernel_rfl) (by kernel_rfl) (by kernel_rfl) (by kernel_rfl) (by kernel_rfl) (fun _ _ _ h => h) ((hA.block _ hlt4).trans n14) (fun _ => trivial) (by rfl) (by intro w'; go_simp) ?_
        try simp only [Act.put, List.setIfInBounds_toArray, List.set_cons_zero, List.set_cons_succ]
        obtain ⟨z0, z1, z2, z3, z4, zf⟩ := row_cells hT9.two
        have zf0 := zf 0; have zf1 := zf 1; have zf2 := zf 2; have zf3 := zf 3; have zf4 := zf 4
        clear zf
        refine Until.wpU_ready (rs := [27]) (by kernel_rfl) (by simp) ?_
        refine (Until.AllU.cons (o := { dst := none, op := Op.store 25 (Operand.tmp 4) (Operand.tmp 82), type := 0, pos := "ref.go:209", after := #[{ on := 26, ground := Ground.data }, { on := 25, ground := Ground.chain }, { on := 0, ground := Ground.phase }, { on := 1, ground := Ground.phase }, { on := 2, ground := Ground.phase }, { on := 3, ground := Ground.phase }, { on := 4, ground := Ground.phase }, { on := 5, ground := Ground.phase }, { on := 6, ground := Ground.phase }, { on := 7, ground := Ground.phase }, { on := 8, ground := Ground.phase }, { on := 9, ground := Ground.phase }, { on := 10, ground := Ground.phase }, { on := 11, ground := Ground.phase }, { on := 12, ground := Ground.phase }, { on := 13, ground := Ground.phase }, { on := 14, ground := Ground.phase }, { on := 15, ground := Ground.phase }, { on := 16, ground := Ground.phase }, { on := 17, ground := Ground.phase }, { on := 18, ground := Ground.phase }, { on := 19, ground := Ground.phase }, { on := 20, ground := Ground.phase }, { on := 21, ground := Ground.phase }, { on := 22, ground := Ground.phase }, { on := 23, ground := Ground.phase }, { on := 24, ground := Ground.phase }, { on := 25, ground := Ground.phase }, { on := 26, ground := Ground.phase }], guard := none }) rfl (fun K hK => ?_) Until.AllU.nil)
        go_simp
        have hp := (put5_far (w := Y4) (g := w.heap.size + 1) (.int .i64 6) (.int .i64 0) (.string ⟨#[]⟩) (.slice (some ⟨gs2, 0, none⟩) (KN.eraseIdx i).length cs2) (.slice (some ⟨gv2, 0, none⟩) (KI.eraseIdx i).length cv2) (show g4 ≠ w.heap.size + 1 by omega)).trans ((hA.block _ hlt4).trans n14)
        refine hK.out _ _ hp (fun _ => trivial) ?_
        clear hK K
        try simp only [Act.put, List.setIfInBounds_toArray, List.set_cons_zero, List.set_cons_succ]
        clear z0 z1 z2 z3 z4 zf0 zf1 zf2 zf3 zf4
        refine Until.wpU_ready (rs := [28]) (by kernel_rfl) (by simp) ?_
        refine (Until.AllU.cons (o := { dst := some 5, op := Op.assign (Operand.const (Value.bool true)), type := 4, pos := "ref.go:209", after := #[{ on := 27, ground := Ground.chain }, { on := 0, ground := Ground.phase }, { on := 1, ground := Ground.phase }, { on := 2, ground := Ground.phase }, { on := 3, ground := Ground.phase }, { on := 4, ground := Ground.phase }, { on := 5, ground := Ground.phase }, { on := 6, ground := Ground.phase }, { on := 7, ground := Ground.phase }, { on := 8, ground := Ground.phase }, { on := 9, ground := Ground.phase }, { on := 10, ground := Ground.phase }, { on := 11, ground := Ground.phase }, { on := 12, ground := Ground.phase }, { on := 13, ground := Ground.phase }, { on := 14, ground := Ground.phase }, { on := 15, ground := Ground.phase }, { on := 16, ground := Ground.phase }, { on := 17, ground := Ground.phase }, { on := 18, ground := Ground.phase }, { on := 19, ground := Ground.phase }, { on := 20, ground := Ground.phase }, { on := 21, ground := Ground.phase }, { on := 22, ground := Ground.phase }, { on := 23, ground := Ground.phase }, { on := 24, ground := Ground.phase }, { on := 25, ground := Ground.phase }, { on := 26, ground := Ground.phase }, { on := 27, ground := Ground.phase }], guard := none }) rfl (fun K hK => ?_) Until.AllU.nil)
        go_simp
        refine hK.out _ _ hp (fun _ => trivial) ?_
        clear hK K
        try simp only [Act.put, List.setIfInBounds_toArray, List.set_cons_zero, List.set_cons_succ]
        refine Until.wpU_done (by kernel_rfl) ?_ _
        refine NoPanic.normal ?_
        go_wp2_with fail
        obtain ⟨hfe, hbe⟩ := nest_end hT9 h0.size hse.out (.int .i64 6) (.int .i64 0) (.string ⟨#[]⟩) (.slice (some ⟨gs2, 0, none⟩) (KN.eraseIdx i).length cs2) (.slice (some ⟨gv2, 0, none⟩) (KI.eraseIdx i).length cv2)
        have hr5 := put5_cells hT9.two (.int .i64 6) (.int .i64 0) (.string ⟨#[]⟩) (.slice (some ⟨gs2, 0, none⟩) (KN.eraseIdx i).length cs2) (.slice (some ⟨gv2, 0, none⟩) (KI.eraseIdx i).length cv2)
        have r0 := hr5 0; have r1 := hr5 1; have r2 := hr5 2; have r3 := hr5 3; have r4 := hr5 4
        clear hr5
        refine bodyPost_ret (v := .tuple #[.agg #[.int .i64 6, .int .i64 0, .string ⟨#[]⟩, .slice (some ⟨gs2, 0, none⟩) (KN.eraseIdx i).length cs2, .slice (some ⟨gv2, 0, none⟩) (KI.eraseIdx i).length cv2], .bool true]) (by simp [results, Try.results21, go_sem, r0, r1, r2, r3, r4]) rfl ?_
        exact ⟨_, _, _, _, _, _, _, _, _, rfl, hfe, hbe⟩
      · skip
        go_simp
        have hv := hid_e (ownsRow_lo (owns_emptyV Y1 25 5) hA.size)
        have hgv : W4.heap.size ≤ Y1.heap.size := hA.size
        replace hs := hid_e (hs.out.alloc (.cells #[] 25))
        replace hA := hA.alloc hA.size (.cells #[] 25)
        refine hK.out _ _ ((hA.block _ hlt4).trans n14) (fun _ => trivial) ?_
        clear hK K
        try simp only [Act.put, List.setIfInBounds_toArray, List.set_cons_zero, List.set_cons_succ]
        obtain ⟨gv, hq⟩ : ∃ g, Y1.heap.size = g := ⟨_, rfl⟩
        rw [hq] at hv hgv
        rw [hq]
        clear hq
        generalize Y1.alloc (.cells #[] 25) = Y1' at hA hv hs ⊢
        refine Until.wpU_ready (rs := [13]) (by kernel_rfl) (by simp) ?_
        refine (Until.AllU.cons (o := { dst := some 69, op := Op.call { callee := Callee.builtin Builtin.append, args := #[Operand.tmp 63, Operand.tmp 68], argTypes := #[22, 22] }, type := 22, pos := "ref.go:209", after := #[{ on := 7, ground := Ground.data }, { on := 12, ground := Ground.data }, { on := 7, ground := Ground.chain }], guard := none }) rfl (fun K hK => ?_) Until.AllU.nil)
        refine step_append_all Y1' (by rfl) _ _ 22 (by rfl) W4.heap.size 9 i9 _ 1 16 Try.underlying22 hi9 hz0 hz1 hz2 (by rfl) (by decide) gs1 i cs1 ((strs KN).take (i * 1)) (by rfl) hs.out (some ⟨gN, oN, none⟩) (KN.length - (i + 1)) (c4 - (i + 1)) ((strs KN).drop ((i + 1) * 1)) (by rfl) tN2 (lies_keep lN2.out hA) oN2.out bN2.out.1 bN2.out.2 hA.size ?_
        intro gs2 cs2 Y2 hoo hgr hat
        replace hv := hid_e (hv.out.kept hgr (by rcases rows_apart hv.out hs.out (by decide) with h | h; exact .inl h; exact .inr h))
        have hgs' : W4.heap.size ≤ gs2 := by rcases hat with e | e; rw [e]; exact hgs; rw [e]; exact hA.size
        replace hA := hA.trans (grown_below hgr hA.size (fun j hj => by cases hj; exact hgs))
        replace hs := hid_e hoo
        replace hgs := hgs'
        clear hgr hat hoo hgs'
        refine hK.out _ _ ((hA.block _ hlt4).trans n14) (fun _ => trivial) ?_
        clear hK K
        try simp only [Act.put, List.setIfInBounds_toArray, List.set_cons_zero, List.set_cons_succ]
        refine Until.wpU_ready (rs := [19]) (by kernel_rfl) (by simp) ?_
        refine (Until.AllU.cons (o := { dst := some 75, op := Op.call { callee := Callee.builtin Builtin.append, args := #[Operand.tmp 70, Operand.tmp 74], argTypes := #[23, 23] }, type := 23, pos := "ref.go:209", after := #[{ on := 14, ground := Ground.data }, { on := 18, ground := Ground.data }, { on := 13, ground := Ground.chain }], guard := none }) rfl (fun K hK => ?_) Until.AllU.nil)
        refine step_append_all Y2 (by rfl) _ _ 23 (by rfl) W4.heap.size 25 iV _ 5 80 Try.underlying23 hiV hv0 hv1 hv2 (by rfl) (by decide) gv 0 0 [] (by rfl) hv.out (some ⟨gi, 0, none⟩) i cig (xs.take (i * 5)) (by rfl) tI1 (lies_keep lI1.out hA) oI1.out bI1.out.1 bI1.out.2 hA.size ?_
        intro gv1 cv1 Y3 hoo hgr hat
        replace hs := hid_e (hs.out.kept hgr (by rcases rows_apart hs.out hv.out (by decide) with h | h; exact .inl h; exact .inr h))
        have hgv' : W4.heap.size ≤ gv1 := by rcases hat with e | e; rw [e]; exact hgv; rw [e]; exact hA.size
        replace hA := hA.trans (grown_below hgr hA.size (fun j hj => by cases hj; exact hgv))
        replace hv := hid_e hoo
        replace hgv := hgv'
        clear hgr hat hoo hgv'
        refine hK.out _ _ ((hA.block _ hlt4).trans n14) (fun _ => trivial) ?_
        clear hK K
        try simp only [Act.put, List.setIfInBounds_toArray, List.set_cons_zero, List.set_cons_succ]
        simp only [Nat.zero_add, List.nil_append] at hv
        try simp only [Nat.zero_add]
        refine Until.wpU_ready (rs := [25]) (by kernel_rfl) (by simp) ?_
        refine (Until.AllU.cons (o := { dst := some 81, op := Op.call { callee := Callee.builtin Builtin.append, args := #[Operand.tmp 75, Operand.tmp 80], argTypes := #[23, 23] }, type := 23, pos := "ref.go:209", after := #[{ on := 19, ground := Ground.data }, { on := 24, ground := Ground.data }, { on := 19, ground := Ground.chain }], guard := none }) rfl (fun K hK => ?_) Until.AllU.nil)
        refine step_append_all Y3 (by rfl) _ _ 23 (by rfl) W4.heap.size 25 iV _ 5 80 Try.underlying23 hiV hv0 hv1 hv2 (by rfl) (by decide) gv1 i cv1 (xs.take (i * 5)) (by rfl) hv.out (some ⟨gi, oI, none⟩) (KI.length - (i + 1)) (cig - (i + 1)) (xs.drop ((i + 1) * 5)) (by rfl) tI2 (lies_keep lI2.out hA) oI2.out bI2.out.1 bI2.out.2 hA.size ?_
        intro gv2 cv2 Y4 hoo hgr hat
        replace hs := hid_e (hs.out.kept hgr (by rcases rows_apart hs.out hv.out (by decide) with h | h; exact .inl h; exact .inr h))
        have hgv' : W4.heap.size ≤ gv2 := by rcases hat with e | e; rw [e]; exact hgv; rw [e]; exact hA.size
        replace hA := hA.trans (grown_below hgr hA.size (fun j hj => by cases hj; exact hgv))
        replace hv := hid_e hoo
        replace hgv := hgv'
        clear hgr hat hoo hgv'
        refine hK.out _ _ ((hA.block _ hlt4).trans n14) (fun _ => trivial) ?_
        clear hK K
        try simp only [Act.put, List.setIfInBounds_toArray, List.set_cons_zero, List.set_cons_succ]
        simp only [zN.out, zI.out, strs_erase] at hs hv
        simp only [zN.out, zI.out]
        have hT9 := hT.keep hA
        have hse := with_fin (w0 := w0) (w := W4) (W := Y4) (S := fun j => j < w0.heap.size) (k := 6) (ns := KN.eraseIdx i) (its := KI.eraseIdx i) (nm := .slice (some ⟨gs2, 0, none⟩) (KN.eraseIdx i).length cs2) (gi := gv2) (ci := cv2) hB0 (fun j hj => hj) hA hv.out (seenR_row hs.out) (fun W' hk2 hs2 ha => (ItemsRep.mono hk2 hs2 hIt.out).erase i)
        rw [hQ2.out] at hse
        replace hse := hid_e (useen_low hT.lt hse)
        refine Until.wpU_pure (i := 26) (oi := { dst := some 82, op := Op.build 25 #[(0, Operand.tmp 57), (3, Operand.tmp 69), (4, Operand.tmp 81)], type := 25, pos := "ref.go:209", after := #[{ on := 1, ground := Ground.data }, { on := 13, ground := Ground.data }, { on := 25, ground := Ground.data }], guard := none }) (v := .agg #[.int .i64 6, .int .i64 0, .string ⟨#[]⟩, .slice (some ⟨gs2, 0, none⟩) (KN.eraseIdx i).length cs2, .slice (some ⟨gv2, 0, none⟩) (KI.eraseIdx i).length cv2]) rfl (by kernel_rfl) (by kernel_rfl) (by kernel_rfl) (by kernel_rfl) (by kernel_rfl) (fun _ _ _ h => h) ((hA.block _ hlt4).trans n14) (fun _ => trivial) (by rfl) (by intro w'; go_simp) ?_
        try simp only [Act.put, List.setIfInBounds_toArray, List.set_cons_zero, List.set_cons_succ]
        obtain ⟨z0, z1, z2, z3, z4, zf⟩ := row_cells hT9.two
        have zf0 := zf 0; have zf1 := zf 1; have zf2 := zf 2; have zf3 := zf 3; have zf4 := zf 4
        clear zf
        refine Until.wpU_ready (rs := [27]) (by kernel_rfl) (by simp) ?_
        refine (Until.AllU.cons (o := { dst := none, op := Op.store 25 (Operand.tmp 4) (Operand.tmp 82), type := 0, pos := "ref.go:209", after := #[{ on := 26, ground := Ground.data }, { on := 25, ground := Ground.chain }, { on := 0, ground := Ground.phase }, { on := 1, ground := Ground.phase }, { on := 2, ground := Ground.phase }, { on := 3, ground := Ground.phase }, { on := 4, ground := Ground.phase }, { on := 5, ground := Ground.phase }, { on := 6, ground := Ground.phase }, { on := 7, ground := Ground.phase }, { on := 8, ground := Ground.phase }, { on := 9, ground := Ground.phase }, { on := 10, ground := Ground.phase }, { on := 11, ground := Ground.phase }, { on := 12, ground := Ground.phase }, { on := 13, ground := Ground.phase }, { on := 14, ground := Ground.phase }, { on := 15, ground := Ground.phase }, { on := 16, ground := Ground.phase }, { on := 17, ground := Ground.phase }, { on := 18, ground := Ground.phase }, { on := 19, ground := Ground.phase }, { on := 20, ground := Ground.phase }, { on := 21, ground := Ground.phase }, { on := 22, ground := Ground.phase }, { on := 23, ground := Ground.phase }, { on := 24, ground := Ground.phase }, { on := 25, ground := Ground.phase }, { on := 26, ground := Ground.phase }], guard := none }) rfl (fun K hK => ?_) Until.AllU.nil)
        go_simp
        have hp := (put5_far (w := Y4) (g := w.heap.size + 1) (.int .i64 6) (.int .i64 0) (.string ⟨#[]⟩) (.slice (some ⟨gs2, 0, none⟩) (KN.eraseIdx i).length cs2) (.slice (some ⟨gv2, 0, none⟩) (KI.eraseIdx i).length cv2) (show g4 ≠ w.heap.size + 1 by omega)).trans ((hA.block _ hlt4).trans n14)
        refine hK.out _ _ hp (fun _ => trivial) ?_
        clear hK K
        try simp only [Act.put, List.setIfInBounds_toArray, List.set_cons_zero, List.set_cons_succ]
        clear z0 z1 z2 z3 z4 zf0 zf1 zf2 zf3 zf4
        refine Until.wpU_ready (rs := [28]) (by kernel_rfl) (by simp) ?_
        refine (Until.AllU.cons (o := { dst := some 5, op := Op.assign (Operand.const (Value.bool true)), type := 4, pos := "ref.go:209", after := #[{ on := 27, ground := Ground.chain }, { on := 0, ground := Ground.phase }, { on := 1, ground := Ground.phase }, { on := 2, ground := Ground.phase }, { on := 3, ground := Ground.phase }, { on := 4, ground := Ground.phase }, { on := 5, ground := Ground.phase }, { on := 6, ground := Ground.phase }, { on := 7, ground := Ground.phase }, { on := 8, ground := Ground.phase }, { on := 9, ground := Ground.phase }, { on := 10, ground := Ground.phase }, { on := 11, ground := Ground.phase }, { on := 12, ground := Ground.phase }, { on := 13, ground := Ground.phase }, { on := 14, ground := Ground.phase }, { on := 15, ground := Ground.phase }, { on := 16, ground := Ground.phase }, { on := 17, ground := Ground.phase }, { on := 18, ground := Ground.phase }, { on := 19, ground := Ground.phase }, { on := 20, ground := Ground.phase }, { on := 21, ground := Ground.phase }, { on := 22, ground := Ground.phase }, { on := 23, ground := Ground.phase }, { on := 24, ground := Ground.phase }, { on := 25, ground := Ground.phase }, { on := 26, ground := Ground.phase }, { on := 27, ground := Ground.phase }], guard := none }) rfl (fun K hK => ?_) Until.AllU.nil)
        go_simp
        refine hK.out _ _ hp (fun _ => trivial) ?_
        clear hK K
        try simp only [Act.put, List.setIfInBounds_toArray, List.set_cons_zero, List.set_cons_succ]
        refine Until.wpU_done (by kernel_rfl) ?_ _
        refine NoPanic.normal ?_
        go_wp2_with fail
        obtain ⟨hfe, hbe⟩ := nest_end hT9 h0.size hse.out (.int .i64 6) (.int .i64 0) (.string ⟨#[]⟩) (.slice (some ⟨gs2, 0, none⟩) (KN.eraseIdx i).length cs2) (.slice (some ⟨gv2, 0, none⟩) (KI.eraseIdx i).length cv2)
        have hr5 := put5_cells hT9.two (.int .i64 6) (.int .i64 0) (.string ⟨#[]⟩) (.slice (some ⟨gs2, 0, none⟩) (KN.eraseIdx i).length cs2) (.slice (some ⟨gv2, 0, none⟩) (KI.eraseIdx i).length cv2)
        have r0 := hr5 0; have r1 := hr5 1; have r2 := hr5 2; have r3 := hr5 3; have r4 := hr5 4
        clear hr5
        refine bodyPost_ret (v := .tuple #[.agg #[.int .i64 6, .int .i64 0, .string ⟨#[]⟩, .slice (some ⟨gs2, 0, none⟩) (KN.eraseIdx i).length cs2, .slice (some ⟨gv2, 0, none⟩) (KI.eraseIdx i).length cv2], .bool true]) (by simp [results, Try.results21, go_sem, r0, r1, r2, r3, r4]) rfl ?_
        exact ⟨_, _, _, _, _, _, _, _, _, rfl, hfe, hbe⟩
    · skip
      go_simp
      have hv := hid_e (ownsRow_lo (owns_emptyV X' 25 5) hA.size)
      have hgv : W4.heap.size ≤ X'.heap.size := hA.size
      replace hs := hid_e (hs.out.alloc (.cells #[] 25))
      replace hA := hA.alloc hA.size (.cells #[] 25)
      refine hK.out _ _ ((hA.block _ hlt4).trans n14) (fun _ => trivial) ?_
      clear hK K
      try simp only [Act.put, List.setIfInBounds_toArray, List.set_cons_zero, List.set_cons_succ]
      obtain ⟨gv, hq⟩ : ∃ g, X'.heap.size = g := ⟨_, rfl⟩
      rw [hq] at hv hgv
      rw [hq]
      clear hq
      generalize X'.alloc (.cells #[] 25) = X'' at hA hv hs ⊢
      refine Until.wpU_ready (rs := [7]) (by kernel_rfl) (by simp) ?_
      refine (Until.AllU.cons (o := { dst := some 63, op := Op.call { callee := Callee.builtin Builtin.append, args := #[Operand.tmp 58, Operand.tmp 62], argTypes := #[22, 22] }, type := 22, pos := "ref.go:209", after := #[{ on := 2, ground := Ground.data }, { on := 6, ground := Ground.data }], guard := none }) rfl (fun K hK => ?_) Until.AllU.nil)
      refine step_append_all X'' (by rfl) _ _ 22 (by rfl) W4.heap.size 9 i9 _ 1 16 Try.underlying22 hi9 hz0 hz1 hz2 (by rfl) (by decide) gs 0 0 [] (by rfl) hs.out (some ⟨gN, 0, none⟩) i c4 ((strs KN).take (i * 1)) (by rfl) tN1 (lies_keep lN1.out hA) oN1.out bN1.out.1 bN1.out.2 hA.size ?_
      intro gs1 cs1 Y1 hoo hgr hat
      replace hv := hid_e (hv.out.kept hgr (by rcases rows_apart hv.out hs.out (by decide) with h | h; exact .inl h; exact .inr h))
      have hgs' : W4.heap.size ≤ gs1 := by rcases hat with e | e; rw [e]; exact hgs; rw [e]; exact hA.size
      replace hA := hA.trans (grown_below hgr hA.size (fun j hj => by cases hj; exact hgs))
      replace hs := hid_e hoo
      replace hgs := hgs'
      clear hgr hat hoo hgs'
      refine hK.out _ _ ((hA.block _ hlt4).trans n14) (fun _ => trivial) ?_
      clear hK K
      try simp only [Act.put, List.setIfInBounds_toArray, List.set_cons_zero, List.set_cons_succ]
      simp only [Nat.zero_add, List.nil_append] at hs
      try simp only [Nat.zero_add]
      refine Until.wpU_ready (rs := [13]) (by kernel_rfl) (by simp) ?_
      refine (Until.AllU.cons (o := { dst := some 69, op := Op.call { callee := Callee.builtin Builtin.append, args := #[Operand.tmp 63, Operand.tmp 68], argTypes := #[22, 22] }, type := 22, pos := "ref.go:209", after := #[{ on := 7, ground := Ground.data }, { on := 12, ground := Ground.data }, { on := 7, ground := Ground.chain }], guard := none }) rfl (fun K hK => ?_) Until.AllU.nil)
      refine step_append_all Y1 (by rfl) _ _ 22 (by rfl) W4.heap.size 9 i9 _ 1 16 Try.underlying22 hi9 hz0 hz1 hz2 (by rfl) (by decide) gs1 i cs1 ((strs KN).take (i * 1)) (by rfl) hs.out (some ⟨gN, oN, none⟩) (KN.length - (i + 1)) (c4 - (i + 1)) ((strs KN).drop ((i + 1) * 1)) (by rfl) tN2 (lies_keep lN2.out hA) oN2.out bN2.out.1 bN2.out.2 hA.size ?_
      intro gs2 cs2 Y2 hoo hgr hat
      replace hv := hid_e (hv.out.kept hgr (by rcases rows_apart hv.out hs.out (by decide) with h | h; exact .inl h; exact .inr h))
      have hgs' : W4.heap.size ≤ gs2 := by rcases hat with e | e; rw [e]; exact hgs; rw [e]; exact hA.size
      replace hA := hA.trans (grown_below hgr hA.size (fun j hj => by cases hj; exact hgs))
      replace hs := hid_e hoo
      replace hgs := hgs'
      clear hgr hat hoo hgs'
      refine hK.out _ _ ((hA.block _ hlt4).trans n14) (fun _ => trivial) ?_
      clear hK K
      try simp only [Act.put, List.setIfInBounds_toArray, List.set_cons_zero, List.set_cons_succ]
      refine Until.wpU_ready (rs := [19]) (by kernel_rfl) (by simp) ?_
      refine (Until.AllU.cons (o := { dst := some 75, op := Op.call { callee := Callee.builtin Builtin.append, args := #[Operand.tmp 70, Operand.tmp 74], argTypes := #[23, 23] }, type := 23, pos := "ref.go:209", after := #[{ on := 14, ground := Ground.data }, { on := 18, ground := Ground.data }, { on := 13, ground := Ground.chain }], guard := none }) rfl (fun K hK => ?_) Until.AllU.nil)
      refine step_append_all Y2 (by rfl) _ _ 23 (by rfl) W4.heap.size 25 iV _ 5 80 Try.underlying23 hiV hv0 hv1 hv2 (by rfl) (by decide) gv 0 0 [] (by rfl) hv.out (some ⟨gi, 0, none⟩) i cig (xs.take (i * 5)) (by rfl) tI1 (lies_keep lI1.out hA) oI1.out bI1.out.1 bI1.out.2 hA.size ?_
      intro gv1 cv1 Y3 hoo hgr hat
      replace hs := hid_e (hs.out.kept hgr (by rcases rows_apart hs.out hv.out (by decide) with h | h; exact .inl h; exact .inr h))
      have hgv' : W4.heap.size ≤ gv1 := by rcases hat with e | e; rw [e]; exact hgv; rw [e]; exact hA.size
      replace hA := hA.trans (grown_below hgr hA.size (fun j hj => by cases hj; exact hgv))
      replace hv := hid_e hoo
      replace hgv := hgv'
      clear hgr hat hoo hgv'
      refine hK.out _ _ ((hA.block _ hlt4).trans n14) (fun _ => trivial) ?_
      clear hK K
      try simp only [Act.put, List.setIfInBounds_toArray, List.set_cons_zero, List.set_cons_succ]
      simp only [Nat.zero_add, List.nil_append] at hv
      try simp only [Nat.zero_add]
      refine Until.wpU_ready (rs := [25]) (by kernel_rfl) (by simp) ?_
      refine (Until.AllU.cons (o := { dst := some 81, op := Op.call { callee := Callee.builtin Builtin.append, args := #[Operand.tmp 75, Operand.tmp 80], argTypes := #[23, 23] }, type := 23, pos := "ref.go:209", after := #[{ on := 19, ground := Ground.data }, { on := 24, ground := Ground.data }, { on := 19, ground := Ground.chain }], guard := none }) rfl (fun K hK => ?_) Until.AllU.nil)
      refine step_append_all Y3 (by rfl) _ _ 23 (by rfl) W4.heap.size 25 iV _ 5 80 Try.underlying23 hiV hv0 hv1 hv2 (by rfl) (by decide) gv1 i cv1 (xs.take (i * 5)) (by rfl) hv.out (some ⟨gi, oI, none⟩) (KI.length - (i + 1)) (cig - (i + 1)) (xs.drop ((i + 1) * 5)) (by rfl) tI2 (lies_keep lI2.out hA) oI2.out bI2.out.1 bI2.out.2 hA.size ?_
      intro gv2 cv2 Y4 hoo hgr hat
      replace hs := hid_e (hs.out.kept hgr (by rcases rows_apart hs.out hv.out (by decide) with h | h; exact .inl h; exact .inr h))
      have hgv' : W4.heap.size ≤ gv2 := by rcases hat with e | e; rw [e]; exact hgv; rw [e]; exact hA.size
      replace hA := hA.trans (grown_below hgr hA.size (fun j hj => by cases hj; exact hgv))
      replace hv := hid_e hoo
      replace hgv := hgv'
      clear hgr hat hoo hgv'
      refine hK.out _ _ ((hA.block _ hlt4).trans n14) (fun _ => trivial) ?_
      clear hK K
      try simp only [Act.put, List.setIfInBounds_toArray, List.set_cons_zero, List.set_cons_succ]
      simp only [zN.out, zI.out, strs_erase] at hs hv
      simp only [zN.out, zI.out]
      have hT9 := hT.keep hA
      have hse := with_fin (w0 := w0) (w := W4) (W := Y4) (S := fun j => j < w0.heap.size) (k := 6) (ns := KN.eraseIdx i) (its := KI.eraseIdx i) (nm := .slice (some ⟨gs2, 0, none⟩) (KN.eraseIdx i).length cs2) (gi := gv2) (ci := cv2) hB0 (fun j hj => hj) hA hv.out (seenR_row hs.out) (fun W' hk2 hs2 ha => (ItemsRep.mono hk2 hs2 hIt.out).erase i)
      rw [hQ2.out] at hse
      replace hse := hid_e (useen_low hT.lt hse)
      refine Until.wpU_pure (i := 26) (oi := { dst := some 82, op := Op.build 25 #[(0, Operand.tmp 57), (3, Operand.tmp 69), (4, Operand.tmp 81)], type := 25, pos := "ref.go:209", after := #[{ on := 1, ground := Ground.data }, { on := 13, ground := Ground.data }, { on := 25, ground := Ground.data }], guard := none }) (v := .agg #[.int .i64 6, .int .i64 0, .string ⟨#[]⟩, .slice (some ⟨gs2, 0, none⟩) (KN.eraseIdx i).length cs2, .slice (some ⟨gv2, 0, none⟩) (KI.eraseIdx i).length cv2]) rfl (by kernel_rfl) (by kernel_rfl) (by kernel_rfl) (by kernel_rfl) (by kernel_rfl) (fun _ _ _ h => h) ((hA.block _ hlt4).trans n14) (fun _ => trivial) (by rfl) (by intro w'; go_simp) ?_
      try simp only [Act.put, List.setIfInBounds_toArray, List.set_cons_zero, List.set_cons_succ]
      obtain ⟨z0, z1, z2, z3, z4, zf⟩ := row_cells hT9.two
      have zf0 := zf 0; have zf1 := zf 1; have zf2 := zf 2; have zf3 := zf 3; have zf4 := zf 4
      clear zf
      refine Until.wpU_ready (rs := [27]) (by kernel_rfl) (by simp) ?_
      refine (Until.AllU.cons (o := { dst := none, op := Op.store 25 (Operand.tmp 4) (Operand.tmp 82), type := 0, pos := "ref.go:209", after := #[{ on := 26, ground := Ground.data }, { on := 25, ground := Ground.chain }, { on := 0, ground := Ground.phase }, { on := 1, ground := Ground.phase }, { on := 2, ground := Ground.phase }, { on := 3, ground := Ground.phase }, { on := 4, ground := Ground.phase }, { on := 5, ground := Ground.phase }, { on := 6, ground := Ground.phase }, { on := 7, ground := Ground.phase }, { on := 8, ground := Ground.phase }, { on := 9, ground := Ground.phase }, { on := 10, ground := Ground.phase }, { on := 11, ground := Ground.phase }, { on := 12, ground := Ground.phase }, { on := 13, ground := Ground.phase }, { on := 14, ground := Ground.phase }, { on := 15, ground := Ground.phase }, { on := 16, ground := Ground.phase }, { on := 17, ground := Ground.phase }, { on := 18, ground := Ground.phase }, { on := 19, ground := Ground.phase }, { on := 20, ground := Ground.phase }, { on := 21, ground := Ground.phase }, { on := 22, ground := Ground.phase }, { on := 23, ground := Ground.phase }, { on := 24, ground := Ground.phase }, { on := 25, ground := Ground.phase }, { on := 26, ground := Ground.phase }], guard := none }) rfl (fun K hK => ?_) Until.AllU.nil)
      go_simp
      have hp := (put5_far (w := Y4) (g := w.heap.size + 1) (.int .i64 6) (.int .i64 0) (.string ⟨#[]⟩) (.slice (some ⟨gs2, 0, none⟩) (KN.eraseIdx i).length cs2) (.slice (some ⟨gv2, 0, none⟩) (KI.eraseIdx i).length cv2) (show g4 ≠ w.heap.size + 1 by omega)).trans ((hA.block _ hlt4).trans n14)
      refine hK.out _ _ hp (fun _ => trivial) ?_
      clear hK K
      try simp only [Act.put, List.setIfInBounds_toArray, List.set_cons_zero, List.set_cons_succ]
      clear z0 z1 z2 z3 z4 zf0 zf1 zf2 zf3 zf4
      refine Until.wpU_ready (rs := [28]) (by kernel_rfl) (by simp) ?_
      refine (Until.AllU.cons (o := { dst := some 5, op := Op.assign (Operand.const (Value.bool true)), type := 4, pos := "ref.go:209", after := #[{ on := 27, ground := Ground.chain }, { on := 0, ground := Ground.phase }, { on := 1, ground := Ground.phase }, { on := 2, ground := Ground.phase }, { on := 3, ground := Ground.phase }, { on := 4, ground := Ground.phase }, { on := 5, ground := Ground.phase }, { on := 6, ground := Ground.phase }, { on := 7, ground := Ground.phase }, { on := 8, ground := Ground.phase }, { on := 9, ground := Ground.phase }, { on := 10, ground := Ground.phase }, { on := 11, ground := Ground.phase }, { on := 12, ground := Ground.phase }, { on := 13, ground := Ground.phase }, { on := 14, ground := Ground.phase }, { on := 15, ground := Ground.phase }, { on := 16, ground := Ground.phase }, { on := 17, ground := Ground.phase }, { on := 18, ground := Ground.phase }, { on := 19, ground := Ground.phase }, { on := 20, ground := Ground.phase }, { on := 21, ground := Ground.phase }, { on := 22, ground := Ground.phase }, { on := 23, ground := Ground.phase }, { on := 24, ground := Ground.phase }, { on := 25, ground := Ground.phase }, { on := 26, ground := Ground.phase }, { on := 27, ground := Ground.phase }], guard := none }) rfl (fun K hK => ?_) Until.AllU.nil)
      go_simp
      refine hK.out _ _ hp (fun _ => trivial) ?_
      clear hK K
      try simp only [Act.put, List.setIfInBounds_toArray, List.set_cons_zero, List.set_cons_succ]
      refine Until.wpU_done (by kernel_rfl) ?_ _
      refine NoPanic.normal ?_
      go_wp2_with fail
      obtain ⟨hfe, hbe⟩ := nest_end hT9 h0.size hse.out (.int .i64 6) (.int .i64 0) (.string ⟨#[]⟩) (.slice (some ⟨gs2, 0, none⟩) (KN.eraseIdx i).length cs2) (.slice (some ⟨gv2, 0, none⟩) (KI.eraseIdx i).length cv2)
      have hr5 := put5_cells hT9.two (.int .i64 6) (.int .i64 0) (.string ⟨#[]⟩) (.slice (some ⟨gs2, 0, none⟩) (KN.eraseIdx i).length cs2) (.slice (some ⟨gv2, 0, none⟩) (KI.eraseIdx i).length cv2)
      have r0 := hr5 0; have r1 := hr5 1; have r2 := hr5 2; have r3 := hr5 3; have r4 := hr5 4
      clear hr5
      refine bodyPost_ret (v := .tuple #[.agg #[.int .i64 6, .int .i64 0, .string ⟨#[]⟩, .slice (some ⟨gs2, 0, none⟩) (KN.eraseIdx i).length cs2, .slice (some ⟨gv2, 0, none⟩) (KI.eraseIdx i).length cv2], .bool true]) (by simp [results, Try.results21, go_sem, r0, r1, r2, r3, r4]) rfl ?_
      exact ⟨_, _, _, _, _, _, _, _, _, rfl, hfe, hbe⟩
  · skip
    go_simp
    have hv := hid_e (ownsRow_lo (owns_emptyV X 25 5) hA.size)
    have hgv : W4.heap.size ≤ X.heap.size := hA.size
    replace hA := hA.alloc hA.size (.cells #[] 25)
    refine hK.out _ _ ((hA.block _ hlt4).trans n14) (fun _ => trivial) ?_
    clear hK K
    try simp only [Act.put, List.setIfInBounds_toArray, List.set_cons_zero, List.set_cons_succ]
    obtain ⟨gv, hq⟩ : ∃ g, X.heap.size = g := ⟨_, rfl⟩
    rw [hq] at hv hgv
    rw [hq]
    clear hq
    generalize X.alloc (.cells #[] 25) = X' at hA hv  ⊢
    refine Until.wpU_ready (rs := [2]) (by kernel_rfl) (by simp) ?_
    refine (Until.AllU.cons (o := { dst := some 58, op := Op.buildSlice 22 0 #[], type := 22, pos := "ref.go:209", after := #[], guard := none }) rfl (fun K hK => ?_) Until.AllU.nil)
    go_simp
    have hs := hid_e (ownsRow_lo (owns_emptyV X' 9 1) hA.size)
    have hgs : W4.heap.size ≤ X'.heap.size := hA.size
    replace hv := hid_e (hv.out.alloc (.cells #[] 9))
    replace hA := hA.alloc hA.size (.cells #[] 9)
    refine hK.out _ _ ((hA.block _ hlt4).trans n14) (fun _ => trivial) ?_
    clear hK K
    try simp only [Act.put, List.setIfInBounds_toArray, List.set_cons_zero, List.set_cons_succ]
    obtain ⟨gs, hq⟩ : ∃ g, X'.heap.size = g := ⟨_, rfl⟩
    rw [hq] at hs hgs
    rw [hq]
    clear hq
    generalize X'.alloc (.cells #[] 9) = X'' at hA hs hv ⊢
    refine Until.wpU_ready (rs := [7]) (by kernel_rfl) (by simp) ?_
    refine (Until.AllU.cons (o := { dst := some 63, op := Op.call { callee := Callee.builtin Builtin.append, args := #[Operand.tmp 58, Operand.tmp 62], argTypes := #[22, 22] }, type := 22, pos := "ref.go:209", after := #[{ on := 2, ground := Ground.data }, { on := 6, ground := Ground.data }], guard := none }) rfl (fun K hK => ?_) Until.AllU.nil)
    refine step_append_all X'' (by rfl) _ _ 22 (by rfl) W4.heap.size 9 i9 _ 1 16 Try.underlying22 hi9 hz0 hz1 hz2 (by rfl) (by decide) gs 0 0 [] (by rfl) hs.out (some ⟨gN, 0, none⟩) i c4 ((strs KN).take (i * 1)) (by rfl) tN1 (lies_keep lN1.out hA) oN1.out bN1.out.1 bN1.out.2 hA.size ?_
    intro gs1 cs1 Y1 hoo hgr hat
    replace hv := hid_e (hv.out.kept hgr (by rcases rows_apart hv.out hs.out (by decide) with h | h; exact .inl h; exact .inr h))
    have hgs' : W4.heap.size ≤ gs1 := by rcases hat with e | e; rw [e]; exact hgs; rw [e]; exact hA.size
    replace hA := hA.trans (grown_below hgr hA.size (fun j hj => by cases hj; exact hgs))
    replace hs := hid_e hoo
    replace hgs := hgs'
    clear hgr hat hoo hgs'
    refine hK.out _ _ ((hA.block _ hlt4).trans n14) (fun _ => trivial) ?_
    clear hK K
    try simp only [Act.put, List.setIfInBounds_toArray, List.set_cons_zero, List.set_cons_succ]
    simp only [Nat.zero_add, List.nil_append] at hs
    try simp only [Nat.zero_add]
    refine Until.wpU_ready (rs := [13]) (by kernel_rfl) (by simp) ?_
    refine (Until.AllU.cons (o := { dst := some 69, op := Op.call { callee := Callee.builtin Builtin.append, args := #[Operand.tmp 63, Operand.tmp 68], argTypes := #[22, 22] }, type := 22, pos := "ref.go:209", after := #[{ on := 7, ground := Ground.data }, { on := 12, ground := Ground.data }, { on := 7, ground := Ground.chain }], guard := none }) rfl (fun K hK => ?_) Until.AllU.nil)
    refine step_append_all Y1 (by rfl) _ _ 22 (by rfl) W4.heap.size 9 i9 _ 1 16 Try.underlying22 hi9 hz0 hz1 hz2 (by rfl) (by decide) gs1 i cs1 ((strs KN).take (i * 1)) (by rfl) hs.out (some ⟨gN, oN, none⟩) (KN.length - (i + 1)) (c4 - (i + 1)) ((strs KN).drop ((i + 1) * 1)) (by rfl) tN2 (lies_keep lN2.out hA) oN2.out bN2.out.1 bN2.out.2 hA.size ?_
    intro gs2 cs2 Y2 hoo hgr hat
    replace hv := hid_e (hv.out.kept hgr (by rcases rows_apart hv.out hs.out (by decide) with h | h; exact .inl h; exact .inr h))
    have hgs' : W4.heap.size ≤ gs2 := by rcases hat with e | e; rw [e]; exact hgs; rw [e]; exact hA.size
    replace hA := hA.trans (grown_below hgr hA.size (fun j hj => by cases hj; exact hgs))
    replace hs := hid_e hoo
    replace hgs := hgs'
    clear hgr hat hoo hgs'
    refine hK.out _ _ ((hA.block _ hlt4).trans n14) (fun _ => trivial) ?_
    clear hK K
    try simp only [Act.put, List.setIfInBounds_toArray, List.set_cons_zero, List.set_cons_succ]
    refine Until.wpU_ready (rs := [19]) (by kernel_rfl) (by simp) ?_
    refine (Until.AllU.cons (o := { dst := some 75, op := Op.call { callee := Callee.builtin Builtin.append, args := #[Operand.tmp 70, Operand.tmp 74], argTypes := #[23, 23] }, type := 23, pos := "ref.go:209", after := #[{ on := 14, ground := Ground.data }, { on := 18, ground := Ground.data }, { on := 13, ground := Ground.chain }], guard := none }) rfl (fun K hK => ?_) Until.AllU.nil)
    refine step_append_all Y2 (by rfl) _ _ 23 (by rfl) W4.heap.size 25 iV _ 5 80 Try.underlying23 hiV hv0 hv1 hv2 (by rfl) (by decide) gv 0 0 [] (by rfl) hv.out (some ⟨gi, 0, none⟩) i cig (xs.take (i * 5)) (by rfl) tI1 (lies_keep lI1.out hA) oI1.out bI1.out.1 bI1.out.2 hA.size ?_
    intro gv1 cv1 Y3 hoo hgr hat
    replace hs := hid_e (hs.out.kept hgr (by rcases rows_apart hs.out hv.out (by decide) with h | h; exact .inl h; exact .inr h))
    have hgv' : W4.heap.size ≤ gv1 := by rcases hat with e | e; rw [e]; exact hgv; rw [e]; exact hA.size
    replace hA := hA.trans (grown_below hgr hA.size (fun j hj => by cases hj; exact hgv))
    replace hv := hid_e hoo
    replace hgv := hgv'
    clear hgr hat hoo hgv'
    refine hK.out _ _ ((hA.block _ hlt4).trans n14) (fun _ => trivial) ?_
    clear hK K
    try simp only [Act.put, List.setIfInBounds_toArray, List.set_cons_zero, List.set_cons_succ]
    simp only [Nat.zero_add, List.nil_append] at hv
    try simp only [Nat.zero_add]
    refine Until.wpU_ready (rs := [25]) (by kernel_rfl) (by simp) ?_
    refine (Until.AllU.cons (o := { dst := some 81, op := Op.call { callee := Callee.builtin Builtin.append, args := #[Operand.tmp 75, Operand.tmp 80], argTypes := #[23, 23] }, type := 23, pos := "ref.go:209", after := #[{ on := 19, ground := Ground.data }, { on := 24, ground := Ground.data }, { on := 19, ground := Ground.chain }], guard := none }) rfl (fun K hK => ?_) Until.AllU.nil)
    refine step_append_all Y3 (by rfl) _ _ 23 (by rfl) W4.heap.size 25 iV _ 5 80 Try.underlying23 hiV hv0 hv1 hv2 (by rfl) (by decide) gv1 i cv1 (xs.take (i * 5)) (by rfl) hv.out (some ⟨gi, oI, none⟩) (KI.length - (i + 1)) (cig - (i + 1)) (xs.drop ((i + 1) * 5)) (by rfl) tI2 (lies_keep lI2.out hA) oI2.out bI2.out.1 bI2.out.2 hA.size ?_
    intro gv2 cv2 Y4 hoo hgr hat
    replace hs := hid_e (hs.out.kept hgr (by rcases rows_apart hs.out hv.out (by decide) with h | h; exact .inl h; exact .inr h))
    have hgv' : W4.heap.size ≤ gv2 := by rcases hat with e | e; rw [e]; exact hgv; rw [e]; exact hA.size
    replace hA := hA.trans (grown_below hgr hA.size (fun j hj => by cases hj; exact hgv))
    replace hv := hid_e hoo
    replace hgv := hgv'
    clear hgr hat hoo hgv'
    refine hK.out _ _ ((hA.block _ hlt4).trans n14) (fun _ => trivial) ?_
    clear hK K
    try simp only [Act.put, List.setIfInBounds_toArray, List.set_cons_zero, List.set_cons_succ]
    simp only [zN.out, zI.out, strs_erase] at hs hv
    simp only [zN.out, zI.out]
    have hT9 := hT.keep hA
    have hse := with_fin (w0 := w0) (w := W4) (W := Y4) (S := fun j => j < w0.heap.size) (k := 6) (ns := KN.eraseIdx i) (its := KI.eraseIdx i) (nm := .slice (some ⟨gs2, 0, none⟩) (KN.eraseIdx i).length cs2) (gi := gv2) (ci := cv2) hB0 (fun j hj => hj) hA hv.out (seenR_row hs.out) (fun W' hk2 hs2 ha => (ItemsRep.mono hk2 hs2 hIt.out).erase i)
    rw [hQ2.out] at hse
    replace hse := hid_e (useen_low hT.lt hse)
    refine Until.wpU_pure (i := 26) (oi := { dst := some 82, op := Op.build 25 #[(0, Operand.tmp 57), (3, Operand.tmp 69), (4, Operand.tmp 81)], type := 25, pos := "ref.go:209", after := #[{ on := 1, ground := Ground.data }, { on := 13, ground := Ground.data }, { on := 25, ground := Ground.data }], guard := none }) (v := .agg #[.int .i64 6, .int .i64 0, .string ⟨#[]⟩, .slice (some ⟨gs2, 0, none⟩) (KN.eraseIdx i).length cs2, .slice (some ⟨gv2, 0, none⟩) (KI.eraseIdx i).length cv2]) rfl (by kernel_rfl) (by kernel_rfl) (by kernel_rfl) (by kernel_rfl) (by kernel_rfl) (fun _ _ _ h => h) ((hA.block _ hlt4).trans n14) (fun _ => trivial) (by rfl) (by intro w'; go_simp) ?_
    try simp only [Act.put, List.setIfInBounds_toArray, List.set_cons_zero, List.set_cons_succ]
    obtain ⟨z0, z1, z2, z3, z4, zf⟩ := row_cells hT9.two
    have zf0 := zf 0; have zf1 := zf 1; have zf2 := zf 2; have zf3 := zf 3; have zf4 := zf 4
    clear zf
    refine Until.wpU_ready (rs := [27]) (by kernel_rfl) (by simp) ?_
    refine (Until.AllU.cons (o := { dst := none, op := Op.store 25 (Operand.tmp 4) (Operand.tmp 82), type := 0, pos := "ref.go:209", after := #[{ on := 26, ground := Ground.data }, { on := 25, ground := Ground.chain }, { on := 0, ground := Ground.phase }, { on := 1, ground := Ground.phase }, { on := 2, ground := Ground.phase }, { on := 3, ground := Ground.phase }, { on := 4, ground := Ground.phase }, { on := 5, ground := Ground.phase }, { on := 6, ground := Ground.phase }, { on := 7, ground := Ground.phase }, { on := 8, ground := Ground.phase }, { on := 9, ground := Ground.phase }, { on := 10, ground := Ground.phase }, { on := 11, ground := Ground.phase }, { on := 12, ground := Ground.phase }, { on := 13, ground := Ground.phase }, { on := 14, ground := Ground.phase }, { on := 15, ground := Ground.phase }, { on := 16, ground := Ground.phase }, { on := 17, ground := Ground.phase }, { on := 18, ground := Ground.phase }, { on := 19, ground := Ground.phase }, { on := 20, ground := Ground.phase }, { on := 21, ground := Ground.phase }, { on := 22, ground := Ground.phase }, { on := 23, ground := Ground.phase }, { on := 24, ground := Ground.phase }, { on := 25, ground := Ground.phase }, { on := 26, ground := Ground.phase }], guard := none }) rfl (fun K hK => ?_) Until.AllU.nil)
    go_simp
    have hp := (put5_far (w := Y4) (g := w.heap.size + 1) (.int .i64 6) (.int .i64 0) (.string ⟨#[]⟩) (.slice (some ⟨gs2, 0, none⟩) (KN.eraseIdx i).length cs2) (.slice (some ⟨gv2, 0, none⟩) (KI.eraseIdx i).length cv2) (show g4 ≠ w.heap.size + 1 by omega)).trans ((hA.block _ hlt4).trans n14)
    refine hK.out _ _ hp (fun _ => trivial) ?_
    clear hK K
    try simp only [Act.put, List.setIfInBounds_toArray, List.set_cons_zero, List.set_cons_succ]
    clear z0 z1 z2 z3 z4 zf0 zf1 zf2 zf3 zf4
    refine Until.wpU_ready (rs := [28]) (by kernel_rfl) (by simp) ?_
    refine (Until.AllU.cons (o := { dst := some 5, op := Op.assign (Operand.const (Value.bool true)), type := 4, pos := "ref.go:209", after := #[{ on := 27, ground := Ground.chain }, { on := 0, ground := Ground.phase }, { on := 1, ground := Ground.phase }, { on := 2, ground := Ground.phase }, { on := 3, ground := Ground.phase }, { on := 4, ground := Ground.phase }, { on := 5, ground := Ground.phase }, { on := 6, ground := Ground.phase }, { on := 7, ground := Ground.phase }, { on := 8, ground := Ground.phase }, { on := 9, ground := Ground.phase }, { on := 10, ground := Ground.phase }, { on := 11, ground := Ground.phase }, { on := 12, ground := Ground.phase }, { on := 13, ground := Ground.phase }, { on := 14, ground := Ground.phase }, { on := 15, ground := Ground.phase }, { on := 16, ground := Ground.phase }, { on := 17, ground := Ground.phase }, { on := 18, ground := Ground.phase }, { on := 19, ground := Ground.phase }, { on := 20, ground := Ground.phase }, { on := 21, ground := Ground.phase }, { on := 22, ground := Ground.phase }, { on := 23, ground := Ground.phase }, { on := 24, ground := Ground.phase }, { on := 25, ground := Ground.phase }, { on := 26, ground := Ground.phase }, { on := 27, ground := Ground.phase }], guard := none }) rfl (fun K hK => ?_) Until.AllU.nil)
    go_simp
    refine hK.out _ _ hp (fun _ => trivial) ?_
    clear hK K
    try simp only [Act.put, List.setIfInBounds_toArray, List.set_cons_zero, List.set_cons_succ]
    refine Until.wpU_done (by kernel_rfl) ?_ _
    refine NoPanic.normal ?_
    go_wp2_with fail
    obtain ⟨hfe, hbe⟩ := nest_end hT9 h0.size hse.out (.int .i64 6) (.int .i64 0) (.string ⟨#[]⟩) (.slice (some ⟨gs2, 0, none⟩) (KN.eraseIdx i).length cs2) (.slice (some ⟨gv2, 0, none⟩) (KI.eraseIdx i).length cv2)
    have hr5 := put5_cells hT9.two (.int .i64 6) (.int .i64 0) (.string ⟨#[]⟩) (.slice (some ⟨gs2, 0, none⟩) (KN.eraseIdx i).length cs2) (.slice (some ⟨gv2, 0, none⟩) (KI.eraseIdx i).length cv2)
    have r0 := hr5 0; have r1 := hr5 1; have r2 := hr5 2; have r3 := hr5 3; have r4 := hr5 4
    clear hr5
    refine bodyPost_ret (v := .tuple #[.agg #[.int .i64 6, .int .i64 0, .string ⟨#[]⟩, .slice (some ⟨gs2, 0, none⟩) (KN.eraseIdx i).length cs2, .slice (some ⟨gv2, 0, none⟩) (KI.eraseIdx i).length cv2], .bool true]) (by simp [results, Try.results21, go_sem, r0, r1, r2, r3, r4]) rfl ?_
    exact ⟨_, _, _, _, _, _, _, _, _, rfl, hfe, hbe⟩
end Go.Proofs.Ytmlbofbnklmedaa
