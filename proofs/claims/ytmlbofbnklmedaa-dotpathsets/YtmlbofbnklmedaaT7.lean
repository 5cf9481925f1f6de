import Derived.Test.YtmlbofbnklmedaaT3
/-! The document's Set: a new member. -/
namespace Go.Proofs.Ytmlbofbnklmedaa
open Go Go.RowKit

set_option maxHeartbeats 16000000 in
set_option maxRecDepth 100000 in
theorem rset_new6 (x : Int) (tx : ByteArray) (an : Option Addr) (cn : Nat) (ns : List ByteArray) (ai : Option Addr) (ci : Nat) (its : List Tr) (kx xx : Int) (sx : ByteArray) (anx : Option Addr) (lnx cnx : Nat) (aix : Option Addr) (lix cix : Nat) (b o c : Nat) (s : ByteArray) (r : List ByteArray) (w0 w : World) (h0 : Below w0.heap.size w0 w) (hs : s.size ≤ 9223372036854775806) (hc : r.length + 1 ≤ c ∧ c ≤ 9223372036854775807) (o2 : Nat) (ho2 : Hid ((if c = 1 then o else o + 1) = o2)) (hp : w0.cell? ⟨b, o, none⟩ = some (.string s)) (hrl : r.length ≤ 1000000) (X : Tr) (hV : Hid (VRep w0 (.node 6 x tx ns its) (five 6 x tx (.slice an ns.length cn) (.slice ai its.length ci)))) (hX : Hid (VRep w0 X (five kx xx sx (.slice anx lnx cnx) (.slice aix lix cix)))) (hPt : Hid (Reads w0 (.slice (some ⟨b, o2, none⟩) r.length (c - 1)) r)) (hb80 : (its.length + 1) * 80 ≤ 140737488355328) (N : Nat) (bs : Bool) (hi1 : (idx s).getD 0 = N) (hi2 : (idx s).isSome = bs) (hpl : Hid (rplace 6 ns its.length s = -1)) :
    Calls Try.prog 20 #[.agg #[.int .i64 6, .int .i64 x, .string tx, .slice an ns.length cn, .slice ai its.length ci], .slice (some ⟨b, o, none⟩) (r.length + 1) c, .agg #[.int .i64 kx, .int .i64 xx, .string sx, .slice anx lnx cnx, .slice aix lix cix]] w (RS w0 w 0 (withT 6 ns its s (keepIts 6 ns its).length (nestS r X))) := by
  obtain ⟨Q, hQ⟩ : ∃ Q, Hid (withT 6 ns its s (keepIts 6 ns its).length (nestS r X) = Q) := ⟨_, hid_e rfl⟩
  rw [hQ.out]
  obtain ⟨hN, hcb, hI⟩ : Reads w0 (.slice an ns.length cn) ns ∧ (its.length ≤ ci ∧ ci ≤ 9223372036854775807) ∧ (its = [] ∨ ∃ g q, ai = some ⟨g, q, none⟩ ∧ g < w0.heap.size ∧ VRepL w0 g q its) := by
    have h := hV.out
    unfold VRep at h
    obtain ⟨nm, a9, c9, e, h1, h2, h3⟩ := h
    simp only [five, List.cons.injEq, Value.slice.injEq, true_and, and_true] at e
    obtain ⟨rfl, rfl, rfl⟩ := e
    exact ⟨h1, h2, h3⟩
  replace hN := hid_e hN
  have hil : its.length ≤ 9223372036854775807 := by omega
  clear hI
  obtain ⟨iV, hiV, hv0, hv1, hv2⟩ := info_parts AV
  obtain ⟨i9, hi9, hz0, hz1, hz2⟩ := info_parts A9
  have hidx := idx_v (s := s) (N := N) (bs := bs) hi1 hi2
  have hT := tri_new w #[.int .i64 6, .int .i64 x, .string tx, .slice an ns.length cn, .slice ai its.length ci] #[.int .i64 kx, .int .i64 xx, .string sx, .slice anx lnx cnx, .slice aix lix cix]
  have hne : ((((r.length + 1 : Nat) : Int)) == 0) = false := by simp; omega
  have hne2 : (((r.length : Int) + 1) == 0) = false := by simp; omega
  have i0 : (0 : Int) < ((r.length + 1 : Nat) : Int) := by omega
  have i00 : (0 : Int) < (r.length : Int) + 1 := by omega
  go_enter Try.func20, Try.ntmps20
  go_upto_region 1 with fail
  generalize ((w.alloc (.cells #[.int .i64 6, .int .i64 x, .string tx, .slice an ns.length cn, .slice ai its.length ci] 25)).alloc (.cells #[.int .i64 kx, .int .i64 xx, .string sx, .slice anx lnx cnx, .slice aix lix cix] 25)).alloc (.cells #[.int .i64 0, .int .i64 0, .string ⟨#[]⟩, .slice none 0 0, .slice none 0 0] 25) = X0 at hT ⊢
  have c0 : X0.cell? ⟨b, o, none⟩ = some (.string s) := ((h0.trans (hT.below.mono h0.size)).cell (cell_lt hp)).trans hp
  obtain ⟨y0, y1, y2, y3, y4, -⟩ := row_cells hT.one
  go_wp2_with fail
  go_fit (rindex_any s hs X0)
  rintro e w1 ⟨rfl, hw⟩
  subst hw
  rw [hidx]
  clear hidx
  go_upto_region 7 with fail
  clear y0 y1 y2 y3 y4
  replace hT := hT.drew
  replace c0 : w1.drew.cell? ⟨b, o, none⟩ = some (.string s) := c0
  generalize hX : w1.drew = X9 at hT c0
  refine wp_region_noPanic ?_
  refine Until.wp_region_U (fun w' => Tri w #[.int .i64 6, .int .i64 x, .string tx, .slice an ns.length cn, .slice ai its.length ci] #[.int .i64 kx, .int .i64 xx, .string sx, .slice anx lnx cnx, .slice aix lix cix] w' ∧ w'.cell? ⟨b, o, none⟩ = some (.string s)) (fun _ => True) 100 (by kernel_rfl) ?_
  rw [hX]
  clear hX
  refine Until.wpU_load0 (i := 0) (oi := { dst := some 41, op := Op.load 25 (Operand.tmp 3), type := 25, pos := "ref.go:166", after := #[], guard := none }) (v := .agg #[.int .i64 6, .int .i64 x, .string tx, .slice an ns.length cn, .slice ai its.length ci]) rfl (by kernel_rfl) (by kernel_rfl) (by kernel_rfl) (by kernel_rfl) (by kernel_rfl) (fun _ _ _ h => h) ⟨hT, c0⟩ (fun _ => trivial) (by rfl) (by intro w' hw'; obtain ⟨t0, t1, t2, t3, t4, -⟩ := row_cells hw'.1.one; clear hw'; go_simp) ?_
  try simp only [Act.put, List.setIfInBounds_toArray, List.set_cons_zero, List.set_cons_succ]
  refine Until.wpU_pure (i := 1) (oi := { dst := some 42, op := Op.move (Operand.tmp 1), type := 22, pos := "ref.go:166", after := #[], guard := none }) (v := .slice (some ⟨b, o, none⟩) (r.length + 1) c) rfl (by kernel_rfl) (by kernel_rfl) (by kernel_rfl) (by kernel_rfl) (by kernel_rfl) (fun _ _ _ h => h) ⟨hT, c0⟩ (fun _ => trivial) (by rfl) (by intro w'; go_simp) ?_
  try simp only [Act.put, List.setIfInBounds_toArray, List.set_cons_zero, List.set_cons_succ]
  refine Until.wpU_pure (i := 2) (oi := { dst := some 43, op := Op.indexAddr 22 (Operand.tmp 42) (Operand.const (Value.int IntKind.i64 0)), type := 0, pos := "ref.go:166", after := #[{ on := 1, ground := Ground.data }], guard := none }) (v := .pointer (some ⟨b, o, none⟩)) rfl (by kernel_rfl) (by kernel_rfl) (by kernel_rfl) (by kernel_rfl) (by kernel_rfl) (fun _ _ _ h => h) ⟨hT, c0⟩ (fun _ => trivial) (by rfl) (by intro w'; go_simp) ?_
  try simp only [Act.put, List.setIfInBounds_toArray, List.set_cons_zero, List.set_cons_succ]
  refine Until.wpU_load0 (i := 3) (oi := { dst := some 44, op := Op.load 9 (Operand.tmp 43), type := 9, pos := "ref.go:166", after := #[{ on := 2, ground := Ground.data }], guard := none }) (v := .string s) rfl (by kernel_rfl) (by kernel_rfl) (by kernel_rfl) (by kernel_rfl) (by kernel_rfl) (fun _ _ _ h => h) ⟨hT, c0⟩ (fun _ => trivial) (by rfl) (by intro w' hw'; have t0 := hw'.2; clear hw'; go_simp) ?_
  try simp only [Act.put, List.setIfInBounds_toArray, List.set_cons_zero, List.set_cons_succ]
  refine Until.wpU_ready (rs := [4]) (by kernel_rfl) (by simp) ?_
  refine (Until.AllU.cons (o := { dst := some 45, op := Op.call { callee := Callee.value (Operand.func 36), args := #[Operand.tmp 41, Operand.tmp 44], argTypes := #[25, 9] }, type := 3, pos := "ref.go:166", after := #[{ on := 0, ground := Ground.data }, { on := 3, ground := Ground.data }], guard := none }) rfl (fun K hK => ?_) Until.AllU.nil)
  go_simp
  refine (rplace_any 6 x tx an cn ns ai its.length ci s _ (hid_f (hN.out.keep (h0.trans (hT.below.mono h0.size)))) hil hs).mono ?_
  rintro e X1 ⟨rfl, hb⟩
  rw [hpl.out]
  replace hT := hT.keep hb
  replace c0 := (hb.cell (cell_lt c0)).trans c0
  clear hb
  refine hK.out _ _ ⟨hT, c0⟩ (fun _ => trivial) ?_
  clear hK K
  try simp only [Act.put, List.setIfInBounds_toArray, List.set_cons_zero, List.set_cons_succ]
  refine Until.wpU_ready (rs := [5]) (by kernel_rfl) (by simp) ?_
  refine (Until.AllU.cons (o := { dst := some 11, op := Op.assign (Operand.tmp 45), type := 3, pos := "ref.go:166", after := #[{ on := 4, ground := Ground.data }, { on := 4, ground := Ground.chain }, { on := 0, ground := Ground.phase }, { on := 1, ground := Ground.phase }, { on := 2, ground := Ground.phase }, { on := 3, ground := Ground.phase }, { on := 4, ground := Ground.phase }], guard := none }) rfl (fun K hK => ?_) Until.AllU.nil)
  go_simp
  refine hK.out _ _ ⟨hT, c0⟩ (fun _ => trivial) ?_
  clear hK K
  try simp only [Act.put, List.setIfInBounds_toArray, List.set_cons_zero, List.set_cons_succ]
  refine Until.wpU_done (by kernel_rfl) ?_ _
  refine NoPanic.normal ?_
  have hBc := h0.trans (hT.below.mono h0.size)
  obtain ⟨xs, hIt, hca⟩ := ranew_any 6 x tx ns its _ (.inr rfl) hb80 w0 X1 hBc hV.out
  have hkl : Hid ((keepIts 6 ns its).length ≤ its.length) := keep_len 6 ns its
  have hnl : Hid ((keepNs 6 ns its).length ≤ its.length) := keepN_len 6 ns its
  have hQ2 : Hid (.node 6 0 ⟨#[]⟩ (keepNs 6 ns its ++ [s]) (keepIts 6 ns its ++ [nestS r X]) = Q) := by rw [Hid, ← hQ.out]; unfold withT; rw [if_neg (by omega)]; rw [if_pos rfl]
  clear hQ
  obtain ⟨KN, hKN⟩ : ∃ l, Hid (keepNs 6 ns its = l) := ⟨_, hid_e rfl⟩
  obtain ⟨KI, hKI⟩ : ∃ l, Hid (keepIts 6 ns its = l) := ⟨_, hid_e rfl⟩
  rw [hKN.out, hKI.out] at hca hQ2
  rw [hKI.out] at hIt hkl
  rw [hKN.out] at hnl
  clear hKN hKI
  replace hIt := hid_e hIt
  replace hca := hid_e hca
  obtain ⟨y0, y1, y2, y3, y4, -⟩ := row_cells hT.one
  go_wp2_with fail
  clear y0 y1 y2 y3 y4
  go_fit hca.out
  rintro e Y2 ⟨nv, gi, cig, rfl, hb2, hn14, hi14⟩
  obtain ⟨a4, c4, rfl⟩ := ownsRow_slice hn14
  have hgi := ownsRow_ge hi14 (g := gi) rfl
  have hltT := hT.lt
  have hb4 : Below X1.heap.size X1 (Y2.alloc (.cells #[.int .i64 6, .int .i64 0, .string ⟨#[]⟩, .slice a4 KN.length c4, .slice (some ⟨gi, 0, none⟩) KI.length cig] 25)) := hb2.alloc hb2.size _
  have n14 := heap_alloc_new Y2 (.cells #[.int .i64 6, .int .i64 0, .string ⟨#[]⟩, .slice a4 KN.length c4, .slice (some ⟨gi, 0, none⟩) KI.length cig] 25)
  replace hT := hT.keep hb4
  replace c0 := (hb4.cell (cell_lt c0)).trans c0
  replace hn14 := hid_e (hn14.alloc (.cells #[.int .i64 6, .int .i64 0, .string ⟨#[]⟩, .slice a4 KN.length c4, .slice (some ⟨gi, 0, none⟩) KI.length cig] 25))
  replace hi14 := hid_e (hi14.alloc (.cells #[.int .i64 6, .int .i64 0, .string ⟨#[]⟩, .slice a4 KN.length c4, .slice (some ⟨gi, 0, none⟩) KI.length cig] 25))
  have hz4 : (Y2.alloc (.cells #[.int .i64 6, .int .i64 0, .string ⟨#[]⟩, .slice a4 KN.length c4, .slice (some ⟨gi, 0, none⟩) KI.length cig] 25)).heap.size = Y2.heap.size + 1 := World.size_alloc _ _
  clear hca hb2
  go_upto_region 18 with fail
  generalize Y2.alloc (.cells #[.int .i64 6, .int .i64 0, .string ⟨#[]⟩, .slice a4 KN.length c4, .slice (some ⟨gi, 0, none⟩) KI.length cig] 25) = W4 at hb4 n14 hT c0 hn14 hi14 hz4 ⊢
  obtain ⟨g4, hq9⟩ : ∃ g, Y2.heap.size = g := ⟨_, rfl⟩
  rw [hq9] at n14 hgi hz4
  rw [hq9]
  clear hq9
  have hg4 : w.heap.size + 3 ≤ g4 := by omega
  have hr8 : ∀ j, (Value.slice a4 KN.length c4).ownBlock = some j → j < g4 := fun j hj => by have h1 := (ownsRow_ge hn14.out hj).2; have h2 := row_box hn14.out n14 j hj; omega
  replace hT := hT.drew
  replace c0 : W4.drew.cell? ⟨b, o, none⟩ = some (.string s) := c0
  replace n14 : W4.drew.heap[g4]? = some (.cells #[.int .i64 6, .int .i64 0, .string ⟨#[]⟩, .slice a4 KN.length c4, .slice (some ⟨gi, 0, none⟩) KI.length cig] 25 (0, 0)) := n14
  replace hn14 : Hid (W4.drew.ownsRow _ _ _ _ _ _) := hn14
  replace hi14 : Hid (W4.drew.ownsRow _ _ _ _ _ _) := hi14
  replace hb4 : Below X1.heap.size X1 W4.drew := hb4.trans ⟨rfl, rfl, rfl, Nat.le_refl _, fun _ _ => rfl⟩
  replace hz4 : W4.drew.heap.size = g4 + 1 := hz4
  generalize hX9 : W4.drew = X8 at hT c0 n14 hn14 hi14 hb4 hz4
  refine wp_region_noPanic ?_
  refine Until.wp_region_U (fun w' => Tri w #[.int .i64 6, .int .i64 x, .string tx, .slice an ns.length cn, .slice ai its.length ci] #[.int .i64 kx, .int .i64 xx, .string sx, .slice anx lnx cnx, .slice aix lix cix] w' ∧ w'.cell? ⟨b, o, none⟩ = some (.string s)) (fun w' => w'.heap[g4]? = some (.cells #[.int .i64 6, .int .i64 0, .string ⟨#[]⟩, .slice a4 KN.length c4, .slice (some ⟨gi, 0, none⟩) KI.length cig] 25 (0, 0))) 9 (by kernel_rfl) ?_
  rw [hX9]
  clear hX9
  refine Until.wpU_pure (i := 0) (oi := { dst := some 83, op := Op.fieldAddr 25 (Operand.tmp 15) 4, type := 0, pos := "ref.go:180", after := #[], guard := none }) (v := .pointer (some ⟨g4, 4, none⟩)) rfl (by kernel_rfl) (by kernel_rfl) (by kernel_rfl) (by kernel_rfl) (by kernel_rfl) (fun _ _ _ h => h) ⟨hT, c0⟩ (fun _ => n14) (by rfl) (by intro w'; go_simp) ?_
  try simp only [Act.put, List.setIfInBounds_toArray, List.set_cons_zero, List.set_cons_succ]
  refine Until.wpU_load1 (i := 1) (oi := { dst := some 84, op := Op.load 23 (Operand.tmp 83), type := 23, pos := "ref.go:180", after := #[{ on := 0, ground := Ground.data }], guard := none }) (v := .slice (some ⟨gi, 0, none⟩) KI.length cig) rfl (by kernel_rfl) (by kernel_rfl) (by kernel_rfl) (by kernel_rfl) (by kernel_rfl) (by kernel_rfl) (fun _ _ _ h => h) ⟨hT, c0⟩ n14 (by rfl) (by intro w' hw'; obtain ⟨t0, t1, t2, t3, t4, -⟩ := row_cells hw'; clear hw'; go_simp) ?_
  try simp only [Act.put, List.setIfInBounds_toArray, List.set_cons_zero, List.set_cons_succ]
  refine Until.wpU_pure (i := 2) (oi := { dst := some 85, op := Op.move (Operand.tmp 1), type := 22, pos := "ref.go:180", after := #[], guard := none }) (v := .slice (some ⟨b, o, none⟩) (r.length + 1) c) rfl (by kernel_rfl) (by kernel_rfl) (by kernel_rfl) (by kernel_rfl) (by kernel_rfl) (fun _ _ _ h => h) ⟨hT, c0⟩ (fun _ => n14) (by rfl) (by intro w'; go_simp) ?_
  try simp only [Act.put, List.setIfInBounds_toArray, List.set_cons_zero, List.set_cons_succ]
  refine Until.wpU_pure (i := 3) (oi := { dst := some 86, op := Op.slice 22 (Operand.tmp 85) (some (Operand.const (Value.int IntKind.i64 1))) none none, type := 22, pos := "ref.go:180", after := #[{ on := 2, ground := Ground.data }], guard := none }) (v := .slice (some ⟨b, o2, none⟩) r.length (c - 1)) rfl (by kernel_rfl) (by kernel_rfl) (by kernel_rfl) (by kernel_rfl) (by kernel_rfl) (fun _ _ _ h => h) ⟨hT, c0⟩ (fun _ => n14) (by rfl) (by
    intro w'
    rw [← ho2.out]
    by_cases hc1 : c = 1
    · have hr0 : r.length = 0 := by omega
      have hl1 : (1 : Int) ≤ (r.length : Int) + 1 := by omega
      subst hc1
      rw [if_pos rfl]
      simp only [hr0] at hl1 ⊢
      go_simp
    · rw [if_neg hc1]
      have hl1 : (1 : Int) ≤ (r.length : Int) + 1 := by omega
      have hl2 : ¬ ((r.length : Int) + 1 < 1) := by omega
      go_simp) ?_
  try simp only [Act.put, List.setIfInBounds_toArray, List.set_cons_zero, List.set_cons_succ]
  refine Until.wpU_load0 (i := 4) (oi := { dst := some 87, op := Op.load 25 (Operand.tmp 5), type := 25, pos := "ref.go:180", after := #[], guard := none }) (v := .agg #[.int .i64 kx, .int .i64 xx, .string sx, .slice anx lnx cnx, .slice aix lix cix]) rfl (by kernel_rfl) (by kernel_rfl) (by kernel_rfl) (by kernel_rfl) (by kernel_rfl) (fun _ _ _ h => h) ⟨hT, c0⟩ (fun _ => n14) (by rfl) (by intro w' hw'; obtain ⟨t0, t1, t2, t3, t4, -⟩ := row_cells hw'.1.two; clear hw'; go_simp) ?_
  try simp only [Act.put, List.setIfInBounds_toArray, List.set_cons_zero, List.set_cons_succ]
  refine Until.wpU_ready (rs := [5]) (by kernel_rfl) (by simp) ?_
  refine (Until.AllU.cons (o := { dst := some 88, op := Op.call { callee := Callee.value (Operand.func 38), args := #[Operand.tmp 86, Operand.tmp 87], argTypes := #[22, 25] }, type := 25, pos := "ref.go:180", after := #[{ on := 3, ground := Ground.data }, { on := 4, ground := Ground.data }], guard := none }) rfl (fun K hK => ?_) Until.AllU.nil)
  go_simp
  refine (nested_code kx xx sx anx lnx cnx aix lix cix (some ⟨b, o2, none⟩) (c - 1) r X w0 X8 (h0.trans (hT.below.mono h0.size)) hX hPt hrl).mono ?_
  rintro e Y3 ⟨k3, x3, s3, an3, ln3, cn3, ai3, li3, ci3, rfl, hsy, hb⟩
  rw [hz4] at hsy
  replace hT := hT.keep hb
  replace c0 := (hb.cell (cell_lt c0)).trans c0
  replace n14 := (hb.block _ (Array.getElem?_eq_some_iff.1 n14).1).trans n14
  replace hn14 := hid_e (ownsRow_below hn14.out hb)
  replace hi14 := hid_e (ownsRow_below hi14.out hb)
  have hsz3 := hb.size
  replace hb4 := hb4.trans (hb.mono hb4.size)
  clear hb
  refine hK.out _ _ ⟨hT, c0⟩ (fun _ => n14) ?_
  clear hK K
  try simp only [Act.put, List.setIfInBounds_toArray, List.set_cons_zero, List.set_cons_succ]
  refine Until.wpU_ready (rs := [6]) (by kernel_rfl) (by simp) ?_
  refine (Until.AllU.cons (o := { dst := some 89, op := Op.buildSlice 23 1 #[(0, Operand.tmp 88)], type := 23, pos := "ref.go:180", after := #[{ on := 5, ground := Ground.data }], guard := none }) rfl (fun K hK => ?_) Until.AllU.nil)
  go_simp
  have nn := heap_alloc_new Y3 (.cells #[.int .i64 k3, .int .i64 x3, .string s3, .slice an3 ln3 cn3, .slice ai3 li3 ci3] 25)
  replace hT := hT.alloc (.cells #[.int .i64 k3, .int .i64 x3, .string s3, .slice an3 ln3 cn3, .slice ai3 li3 ci3] 25)
  replace c0 := cell_alloc' c0 (.cells #[.int .i64 k3, .int .i64 x3, .string s3, .slice an3 ln3 cn3, .slice ai3 li3 ci3] 25)
  replace n14 := (Below.heap_alloc Y3 (.cells #[.int .i64 k3, .int .i64 x3, .string s3, .slice an3 ln3 cn3, .slice ai3 li3 ci3] 25) _ (Array.getElem?_eq_some_iff.1 n14).1).trans n14
  replace hn14 := hid_e (hn14.out.alloc (.cells #[.int .i64 k3, .int .i64 x3, .string s3, .slice an3 ln3 cn3, .slice ai3 li3 ci3] 25))
  replace hi14 := hid_e (hi14.out.alloc (.cells #[.int .i64 k3, .int .i64 x3, .string s3, .slice an3 ln3 cn3, .slice ai3 li3 ci3] 25))
  replace hsy := hsy.keep ((Below.refl _ Y3).alloc (Nat.le_refl _) (.cells #[.int .i64 k3, .int .i64 x3, .string s3, .slice an3 ln3 cn3, .slice ai3 li3 ci3] 25))
  replace hb4 := hb4.alloc hb4.size (.cells #[.int .i64 k3, .int .i64 x3, .string s3, .slice an3 ln3 cn3, .slice ai3 li3 ci3] 25)
  refine hK.out _ _ ⟨hT, c0⟩ (fun _ => n14) ?_
  clear hK K
  try simp only [Act.put, List.setIfInBounds_toArray, List.set_cons_zero, List.set_cons_succ]
  generalize Y3.alloc (.cells #[.int .i64 k3, .int .i64 x3, .string s3, .slice an3 ln3 cn3, .slice ai3 li3 ci3] 25) = W5 at nn hT c0 n14 hn14 hi14 hsy hb4 ⊢
  obtain ⟨gn, hq9⟩ : ∃ g, Y3.heap.size = g := ⟨_, rfl⟩
  rw [hq9] at nn hsz3
  rw [hq9]
  clear hq9
  replace hsy := hid_e hsy
  refine Until.wpU_ready (rs := [7]) (by kernel_rfl) (by simp) ?_
  refine (Until.AllU.cons (o := { dst := some 90, op := Op.call { callee := Callee.builtin Builtin.append, args := #[Operand.tmp 84, Operand.tmp 89], argTypes := #[23, 23] }, type := 23, pos := "ref.go:180", after := #[{ on := 1, ground := Ground.data }, { on := 6, ground := Ground.data }, { on := 5, ground := Ground.chain }], guard := none }) rfl (fun K hK => ?_) Until.AllU.nil)
  refine step_append_lies W5 (by rfl) _ _ 23 (by rfl) X1.heap.size 25 iV _ 5 80 Try.underlying23 hiV hv0 hv1 hv2 (by rfl) (by decide) _ KI.length xs (by rfl) hi14.out ⟨gn, 0, none⟩ 1 1 (five k3 x3 s3 (.slice an3 ln3 cn3) (.slice ai3 li3 ci3)) (by rfl) (by rfl) (World.news_of_block nn) five_ones (by decide) (by have := hkl.out; unfold maxLen; omega) (by have := hkl.out; omega) hb4.size _ rfl ?_
  intro ga capa W6 hoa hgra hata hlta
  replace hgra : W5.grownBy W6 (some gi) := hgra
  replace hT := hT.grown hgra (by omega)
  replace c0 : W6.cell? ⟨b, o, none⟩ = some (.string s) := (World.cell?_of_block (w := W5) (a := ⟨b, o, none⟩) (hgra.block _ (cell_lt c0) (fun e => by have h1 := cell_lt hp; have h2 := h0.size; simp only [Option.some.injEq] at e h1; omega))).trans c0
  replace n14 := (hgra.block _ (Array.getElem?_eq_some_iff.1 n14).1 (fun e => by simp only [Option.some.injEq] at e; omega)).trans n14
  replace hn14 := hid_e (hn14.out.kept hgra (by rcases rows_apart hn14.out hi14.out (by decide) with h | h; exact .inl h; exact .inr h))
  have hga : X1.heap.size ≤ ga ∧ ga ≠ g4 := by
    refine ⟨(ownsRow_ge hoa (g := ga) rfl).1, ?_⟩
    rcases hata with e | e
    · have : gi = ga := by simpa [Value.ownBlock] using e
      omega
    · have := (Array.getElem?_eq_some_iff.1 nn).1
      omega
  replace hsy : Hid (Seen W6 (fun j => j < w0.heap.size ∨ g4 + 1 ≤ j) (nestS r X) (five k3 x3 s3 (.slice an3 ln3 cn3) (.slice ai3 li3 ci3))) := fun W' ha => hsy.out W' ⟨Nat.le_trans hgra.size ha.1, fun p u hp2 hc2 => ha.2 p u hp2 ((World.cell?_of_block (w := W5) (hgra.block _ (cell_lt hc2) (fun e => by simp only [Option.some.injEq] at e; have h2 := h0.size; have h3 := hltT; omega))).trans hc2)⟩
  replace hb4 : Below X1.heap.size X1 W6 := hb4.trans (grown_below hgra hb4.size (fun j hj => by cases hj; exact hgi.1))
  replace hoa := hid_e hoa
  clear hgra hata hlta hi14 nn
  refine hK.out _ _ ⟨hT, c0⟩ (fun _ => n14) ?_
  clear hK K
  try simp only [Act.put, List.setIfInBounds_toArray, List.set_cons_zero, List.set_cons_succ]
  refine Until.wpU_pure (i := 8) (oi := { dst := some 91, op := Op.fieldAddr 25 (Operand.tmp 15) 4, type := 0, pos := "ref.go:180", after := #[{ on := 0, ground := Ground.phase }, { on := 1, ground := Ground.phase }, { on := 2, ground := Ground.phase }, { on := 3, ground := Ground.phase }, { on := 4, ground := Ground.phase }, { on := 5, ground := Ground.phase }, { on := 6, ground := Ground.phase }, { on := 7, ground := Ground.phase }], guard := none }) (v := .pointer (some ⟨g4, 4, none⟩)) rfl (by kernel_rfl) (by kernel_rfl) (by kernel_rfl) (by kernel_rfl) (by kernel_rfl) (fun _ _ _ h => h) ⟨hT, c0⟩ (fun _ => n14) (by rfl) (by intro w'; go_simp) ?_
  try simp only [Act.put, List.setIfInBounds_toArray, List.set_cons_zero, List.set_cons_succ]
  obtain ⟨z0, z1, z2, z3, z4, zf⟩ := row_cells n14
  have zf4 := zf 4
  clear zf z0 z1 z2 z3
  refine Until.wpU_ready (rs := [9]) (by kernel_rfl) (by simp) ?_
  refine (Until.AllU.cons (o := { dst := none, op := Op.store 23 (Operand.tmp 91) (Operand.tmp 90), type := 0, pos := "ref.go:180", after := #[{ on := 8, ground := Ground.data }, { on := 7, ground := Ground.data }, { on := 7, ground := Ground.chain }, { on := 0, ground := Ground.phase }, { on := 1, ground := Ground.phase }, { on := 2, ground := Ground.phase }, { on := 3, ground := Ground.phase }, { on := 4, ground := Ground.phase }, { on := 5, ground := Ground.phase }, { on := 6, ground := Ground.phase }, { on := 7, ground := Ground.phase }], guard := none }) rfl (fun K hK => ?_) Until.AllU.nil)
  go_simp
  have n15 := box_set (j := 4) n14 (.slice (some ⟨ga, 0, none⟩) (KI.length + 1) capa)
  simp only [List.setIfInBounds_toArray, List.set_cons_zero, List.set_cons_succ] at n15
  replace hT := hT.set hg4 4 (.slice (some ⟨ga, 0, none⟩) (KI.length + 1) capa)
  replace c0 : (W6.setCell ⟨g4, 4, none⟩ (.slice (some ⟨ga, 0, none⟩) (KI.length + 1) capa)).cell? ⟨b, o, none⟩ = some (.string s) := (World.cell?_of_block (w := W6) (a := ⟨b, o, none⟩) (Below.heap_setCell _ _ _ _ (show b ≠ g4 by have h1 := cell_lt hp; have h2 := h0.size; simp only at h1; omega))).trans c0
  replace hoa := hid_e (ownsRow_keep (w' := W6.setCell ⟨g4, 4, none⟩ (.slice (some ⟨ga, 0, none⟩) (KI.length + 1) capa)) hoa.out (fun j hj => Below.heap_setCell _ _ _ _ (by cases hj; exact hga.2)))
  replace hn14 := hid_e (ownsRow_keep (w' := W6.setCell ⟨g4, 4, none⟩ (.slice (some ⟨ga, 0, none⟩) (KI.length + 1) capa)) hn14.out (fun j hj => Below.heap_setCell _ _ _ _ (row_box hn14.out n14 j hj)))
  replace hsy : Hid (Seen (W6.setCell ⟨g4, 4, none⟩ (.slice (some ⟨ga, 0, none⟩) (KI.length + 1) capa)) (fun j => j < w0.heap.size ∨ g4 + 1 ≤ j) (nestS r X) (five k3 x3 s3 (.slice an3 ln3 cn3) (.slice ai3 li3 ci3))) := fun W' ha => hsy.out W' ⟨by have := ha.1; simpa [World.setCell] using this, fun p u hp2 hc2 => ha.2 p u hp2 ((World.cell?_of_block (w := W6) (Below.heap_setCell _ _ _ _ (show p.block ≠ g4 by have h2 := h0.size; omega))).trans hc2)⟩
  replace hb4 : Below X1.heap.size X1 (W6.setCell ⟨g4, 4, none⟩ (.slice (some ⟨ga, 0, none⟩) (KI.length + 1) capa)) := ⟨hb4.os, hb4.tape, hb4.output, by simpa [World.setCell] using hb4.size, fun j hj => (Below.heap_setCell _ _ _ _ (show j ≠ g4 by omega)).trans (hb4.block j hj)⟩
  refine hK.out _ _ ⟨hT, c0⟩ (fun h => absurd h (by decide)) ?_
  clear hK K
  try simp only [Act.put, List.setIfInBounds_toArray, List.set_cons_zero, List.set_cons_succ]
  clear z4 zf4 n14
  generalize W6.setCell ⟨g4, 4, none⟩ (.slice (some ⟨ga, 0, none⟩) (KI.length + 1) capa) = W7 at n15 hT c0 hoa hn14 hsy hb4 ⊢
  refine Until.wpU_done (by kernel_rfl) ?_ _
  refine NoPanic.normal ?_
  go_upto_region 20 with fail
  replace hT := hT.drew
  replace c0 : W7.drew.cell? ⟨b, o, none⟩ = some (.string s) := c0
  replace n15 : W7.drew.heap[g4]? = some (.cells #[.int .i64 6, .int .i64 0, .string ⟨#[]⟩, .slice a4 KN.length c4, .slice (some ⟨ga, 0, none⟩) (KI.length + 1) capa] 25 (0, 0)) := n15
  replace hn14 : Hid (W7.drew.ownsRow _ _ _ _ _ _) := hn14
  replace hoa : Hid (W7.drew.ownsRow _ _ _ _ _ _) := hoa
  replace hb4 : Below X1.heap.size X1 W7.drew := hb4.trans ⟨rfl, rfl, rfl, Nat.le_refl _, fun _ _ => rfl⟩
  replace hsy : Hid (Seen W7.drew (fun j => j < w0.heap.size ∨ g4 + 1 ≤ j) (nestS r X) (five k3 x3 s3 (.slice an3 ln3 cn3) (.slice ai3 li3 ci3))) := hid_e (hsy.out.keep ⟨rfl, rfl, rfl, Nat.le_refl _, fun _ _ => rfl⟩)
  generalize hX9 : W7.drew = X7 at hT c0 n15 hn14 hoa hb4 hsy
  refine wp_region_noPanic ?_
  refine Until.wp_region_U (fun w' => Tri w #[.int .i64 6, .int .i64 x, .string tx, .slice an ns.length cn, .slice ai its.length ci] #[.int .i64 kx, .int .i64 xx, .string sx, .slice anx lnx cnx, .slice aix lix cix] w' ∧ w'.cell? ⟨b, o, none⟩ = some (.string s)) (fun w' => w'.heap[g4]? = some (.cells #[.int .i64 6, .int .i64 0, .string ⟨#[]⟩, .slice a4 KN.length c4, .slice (some ⟨ga, 0, none⟩) (KI.length + 1) capa] 25 (0, 0))) 8 (by kernel_rfl) ?_
  rw [hX9]
  clear hX9
  refine Until.wpU_pure (i := 0) (oi := { dst := some 94, op := Op.fieldAddr 25 (Operand.tmp 15) 3, type := 0, pos := "ref.go:182", after := #[], guard := none }) (v := .pointer (some ⟨g4, 3, none⟩)) rfl (by kernel_rfl) (by kernel_rfl) (by kernel_rfl) (by kernel_rfl) (by kernel_rfl) (fun _ _ _ h => h) ⟨hT, c0⟩ (fun _ => n15) (by rfl) (by intro w'; go_simp) ?_
  try simp only [Act.put, List.setIfInBounds_toArray, List.set_cons_zero, List.set_cons_succ]
  refine Until.wpU_load1 (i := 1) (oi := { dst := some 95, op := Op.load 22 (Operand.tmp 94), type := 22, pos := "ref.go:182", after := #[{ on := 0, ground := Ground.data }], guard := none }) (v := .slice a4 KN.length c4) rfl (by kernel_rfl) (by kernel_rfl) (by kernel_rfl) (by kernel_rfl) (by kernel_rfl) (by kernel_rfl) (fun _ _ _ h => h) ⟨hT, c0⟩ n15 (by rfl) (by intro w' hw'; obtain ⟨t0, t1, t2, t3, t4, -⟩ := row_cells hw'; clear hw'; go_simp) ?_
  try simp only [Act.put, List.setIfInBounds_toArray, List.set_cons_zero, List.set_cons_succ]
  refine Until.wpU_pure (i := 2) (oi := { dst := some 96, op := Op.move (Operand.tmp 1), type := 22, pos := "ref.go:182", after := #[], guard := none }) (v := .slice (some ⟨b, o, none⟩) (r.length + 1) c) rfl (by kernel_rfl) (by kernel_rfl) (by kernel_rfl) (by kernel_rfl) (by kernel_rfl) (fun _ _ _ h => h) ⟨hT, c0⟩ (fun _ => n15) (by rfl) (by intro w'; go_simp) ?_
  try simp only [Act.put, List.setIfInBounds_toArray, List.set_cons_zero, List.set_cons_succ]
  refine Until.wpU_pure (i := 3) (oi := { dst := some 97, op := Op.indexAddr 22 (Operand.tmp 96) (Operand.const (Value.int IntKind.i64 0)), type := 0, pos := "ref.go:182", after := #[{ on := 2, ground := Ground.data }], guard := none }) (v := .pointer (some ⟨b, o, none⟩)) rfl (by kernel_rfl) (by kernel_rfl) (by kernel_rfl) (by kernel_rfl) (by kernel_rfl) (fun _ _ _ h => h) ⟨hT, c0⟩ (fun _ => n15) (by rfl) (by intro w'; go_simp) ?_
  try simp only [Act.put, List.setIfInBounds_toArray, List.set_cons_zero, List.set_cons_succ]
  refine Until.wpU_load0 (i := 4) (oi := { dst := some 98, op := Op.load 9 (Operand.tmp 97), type := 9, pos := "ref.go:182", after := #[{ on := 3, ground := Ground.data }], guard := none }) (v := .string s) rfl (by kernel_rfl) (by kernel_rfl) (by kernel_rfl) (by kernel_rfl) (by kernel_rfl) (fun _ _ _ h => h) ⟨hT, c0⟩ (fun _ => n15) (by rfl) (by intro w' hw'; have t0 := hw'.2; clear hw'; go_simp) ?_
  try simp only [Act.put, List.setIfInBounds_toArray, List.set_cons_zero, List.set_cons_succ]
  refine Until.wpU_ready (rs := [5]) (by kernel_rfl) (by simp) ?_
  refine (Until.AllU.cons (o := { dst := some 99, op := Op.buildSlice 22 1 #[(0, Operand.tmp 98)], type := 22, pos := "ref.go:182", after := #[{ on := 4, ground := Ground.data }], guard := none }) rfl (fun K hK => ?_) Until.AllU.nil)
  go_simp
  have nn := heap_alloc_new X7 (.cells #[.string s] 9)
  replace hT := hT.alloc (.cells #[.string s] 9)
  replace c0 := cell_alloc' c0 (.cells #[.string s] 9)
  replace n15 := (Below.heap_alloc X7 (.cells #[.string s] 9) _ (Array.getElem?_eq_some_iff.1 n15).1).trans n15
  replace hn14 := hid_e (hn14.out.alloc (.cells #[.string s] 9))
  replace hoa := hid_e (hoa.out.alloc (.cells #[.string s] 9))
  replace hsy := hid_e (hsy.out.keep ((Below.refl _ X7).alloc (Nat.le_refl _) (.cells #[.string s] 9)))
  replace hb4 := hb4.alloc hb4.size (.cells #[.string s] 9)
  refine hK.out _ _ ⟨hT, c0⟩ (fun _ => n15) ?_
  clear hK K
  try simp only [Act.put, List.setIfInBounds_toArray, List.set_cons_zero, List.set_cons_succ]
  generalize X7.alloc (.cells #[.string s] 9) = W8 at nn hT c0 n15 hn14 hoa hsy hb4 ⊢
  obtain ⟨gm, hq9⟩ : ∃ g, X7.heap.size = g := ⟨_, rfl⟩
  rw [hq9] at nn
  rw [hq9]
  clear hq9
  refine Until.wpU_ready (rs := [6]) (by kernel_rfl) (by simp) ?_
  refine (Until.AllU.cons (o := { dst := some 100, op := Op.call { callee := Callee.builtin Builtin.append, args := #[Operand.tmp 95, Operand.tmp 99], argTypes := #[22, 22] }, type := 22, pos := "ref.go:182", after := #[{ on := 1, ground := Ground.data }, { on := 5, ground := Ground.data }], guard := none }) rfl (fun K hK => ?_) Until.AllU.nil)
  refine step_append_lies W8 (by rfl) _ _ 22 (by rfl) X1.heap.size 9 i9 _ 1 16 Try.underlying22 hi9 hz0 hz1 hz2 (by rfl) (by decide) _ KN.length (strs KN) (by rfl) hn14.out ⟨gm, 0, none⟩ 1 1 [.string s] (by rfl) (by rfl) (World.news_of_block nn) (fun u hu => by obtain rfl := List.mem_singleton.1 hu; rfl) (by decide) (by have := hnl.out; unfold maxLen; omega) (by have := hnl.out; omega) hb4.size _ rfl ?_
  intro gb capb W9 hob hgrb hatb hltb
  have hr9 : ∀ j, (Value.slice a4 KN.length c4).ownBlock = some j → X1.heap.size ≤ j ∧ j ≠ g4 ∧ j < W8.heap.size := fun j hj => ⟨(ownsRow_ge hn14.out hj).1, row_box hn14.out n15 j hj, (ownsRow_ge hn14.out hj).2⟩
  replace hT := hT.grownO hgrb (fun j hj => by have := hr9 j hj; omega)
  replace c0 : W9.cell? ⟨b, o, none⟩ = some (.string s) := (World.cell?_of_block (w := W8) (a := ⟨b, o, none⟩) (hgrb.block _ (cell_lt c0) (fun e => by have h1 := cell_lt hp; have h2 := h0.size; have h3 := hr9 _ e.symm; simp only at h1 h3; omega))).trans c0
  have hbg : gb ≠ g4 := by
    rcases hatb with e | e
    · exact (hr9 gb e).2.1
    · have := (Array.getElem?_eq_some_iff.1 n15).1
      omega
  replace n15 := (hgrb.block _ (Array.getElem?_eq_some_iff.1 n15).1 (fun e => (hr9 _ e.symm).2.1 rfl)).trans n15
  replace hoa := hid_e (hoa.out.kept hgrb (by rcases rows_apart hoa.out hn14.out (by decide) with h | h; exact .inl h; exact .inr h))
  replace hsy : Hid (Seen W9 (fun j => j < w0.heap.size ∨ g4 + 1 ≤ j) (nestS r X) (five k3 x3 s3 (.slice an3 ln3 cn3) (.slice ai3 li3 ci3))) := fun W' ha => hsy.out W' ⟨Nat.le_trans hgrb.size ha.1, fun p u hp2 hc2 => ha.2 p u hp2 ((World.cell?_of_block (w := W8) (hgrb.block _ (cell_lt hc2) (fun e => by have h1 := hr9 _ e.symm; have h4 := hr8 _ e.symm; have h2 := h0.size; have h3 := hltT; omega))).trans hc2)⟩
  replace hb4 : Below X1.heap.size X1 W9 := hb4.trans (grown_below hgrb hb4.size (fun j hj => (hr9 j hj).1))
  replace hob := hid_e hob
  clear hgrb hatb hltb hn14 nn hr9
  refine hK.out _ _ ⟨hT, c0⟩ (fun _ => n15) ?_
  clear hK K
  try simp only [Act.put, List.setIfInBounds_toArray, List.set_cons_zero, List.set_cons_succ]
  refine Until.wpU_pure (i := 7) (oi := { dst := some 101, op := Op.fieldAddr 25 (Operand.tmp 15) 3, type := 0, pos := "ref.go:182", after := #[{ on := 0, ground := Ground.phase }, { on := 1, ground := Ground.phase }, { on := 2, ground := Ground.phase }, { on := 3, ground := Ground.phase }, { on := 4, ground := Ground.phase }, { on := 5, ground := Ground.phase }, { on := 6, ground := Ground.phase }], guard := none }) (v := .pointer (some ⟨g4, 3, none⟩)) rfl (by kernel_rfl) (by kernel_rfl) (by kernel_rfl) (by kernel_rfl) (by kernel_rfl) (fun _ _ _ h => h) ⟨hT, c0⟩ (fun _ => n15) (by rfl) (by intro w'; go_simp) ?_
  try simp only [Act.put, List.setIfInBounds_toArray, List.set_cons_zero, List.set_cons_succ]
  obtain ⟨z0, z1, z2, z3, z4, zf⟩ := row_cells n15
  have zf3 := zf 3
  clear zf z0 z1 z2 z4
  refine Until.wpU_ready (rs := [8]) (by kernel_rfl) (by simp) ?_
  refine (Until.AllU.cons (o := { dst := none, op := Op.store 22 (Operand.tmp 101) (Operand.tmp 100), type := 0, pos := "ref.go:182", after := #[{ on := 7, ground := Ground.data }, { on := 6, ground := Ground.data }, { on := 6, ground := Ground.chain }, { on := 0, ground := Ground.phase }, { on := 1, ground := Ground.phase }, { on := 2, ground := Ground.phase }, { on := 3, ground := Ground.phase }, { on := 4, ground := Ground.phase }, { on := 5, ground := Ground.phase }, { on := 6, ground := Ground.phase }], guard := none }) rfl (fun K hK => ?_) Until.AllU.nil)
  go_simp
  have n16 := box_set (j := 3) n15 (.slice (some ⟨gb, 0, none⟩) (KN.length + 1) capb)
  simp only [List.setIfInBounds_toArray, List.set_cons_zero, List.set_cons_succ] at n16
  replace hT := hT.set hg4 3 (.slice (some ⟨gb, 0, none⟩) (KN.length + 1) capb)
  replace c0 : (W9.setCell ⟨g4, 3, none⟩ (.slice (some ⟨gb, 0, none⟩) (KN.length + 1) capb)).cell? ⟨b, o, none⟩ = some (.string s) := (World.cell?_of_block (w := W9) (a := ⟨b, o, none⟩) (Below.heap_setCell _ _ _ _ (show b ≠ g4 by have h1 := cell_lt hp; have h2 := h0.size; simp only at h1; omega))).trans c0
  replace hoa := hid_e (ownsRow_keep (w' := W9.setCell ⟨g4, 3, none⟩ (.slice (some ⟨gb, 0, none⟩) (KN.length + 1) capb)) hoa.out (fun j hj => Below.heap_setCell _ _ _ _ (by cases hj; exact hga.2)))
  have hn14 := hid_e (ownsRow_keep (w' := W9.setCell ⟨g4, 3, none⟩ (.slice (some ⟨gb, 0, none⟩) (KN.length + 1) capb)) hob.out (fun j hj => Below.heap_setCell _ _ _ _ (by cases hj; exact hbg)))
  replace hsy : Hid (Seen (W9.setCell ⟨g4, 3, none⟩ (.slice (some ⟨gb, 0, none⟩) (KN.length + 1) capb)) (fun j => j < w0.heap.size ∨ g4 + 1 ≤ j) (nestS r X) (five k3 x3 s3 (.slice an3 ln3 cn3) (.slice ai3 li3 ci3))) := fun W' ha => hsy.out W' ⟨by have := ha.1; simpa [World.setCell] using this, fun p u hp2 hc2 => ha.2 p u hp2 ((World.cell?_of_block (w := W9) (Below.heap_setCell _ _ _ _ (show p.block ≠ g4 by have h2 := h0.size; omega))).trans hc2)⟩
  replace hb4 : Below X1.heap.size X1 (W9.setCell ⟨g4, 3, none⟩ (.slice (some ⟨gb, 0, none⟩) (KN.length + 1) capb)) := ⟨hb4.os, hb4.tape, hb4.output, by simpa [World.setCell] using hb4.size, fun j hj => (Below.heap_setCell _ _ _ _ (show j ≠ g4 by omega)).trans (hb4.block j hj)⟩
  refine hK.out _ _ ⟨hT, c0⟩ (fun h => absurd h (by decide)) ?_
  clear hK K
  try simp only [Act.put, List.setIfInBounds_toArray, List.set_cons_zero, List.set_cons_succ]
  clear z3 zf3 n15 hob
  have n15 := n16
  clear n16
  generalize W9.setCell ⟨g4, 3, none⟩ (.slice (some ⟨gb, 0, none⟩) (KN.length + 1) capb) = W10 at n15 hT c0 hoa hn14 hsy hb4 ⊢
  refine Until.wpU_done (by kernel_rfl) ?_ _
  refine NoPanic.normal ?_
  have hse := with_fin (w0 := w0) (w := X1) (W := W10) (S := fun j => j < w0.heap.size ∨ (w.heap.size + 3 ≤ j ∧ j ≠ g4)) (k := 6) (ns := (KN ++ [s])) (its := KI ++ [nestS r X]) (nm := .slice (some ⟨gb, 0, none⟩) (KN.length + 1) capb) (gi := ga) (ci := capa) hBc (fun j hj => .inl hj) hb4 (by rw [List.length_append]; exact hoa.out) (seenR_row (by have h := hn14.out; simpa [strs] using h)) (fun W' hk2 hs2 ha => ItemsRep.snoc (by rfl) (hsy.out W' ⟨ha.1, fun p u hp2 hc2 => ha.2 p u (hp2.elim (fun h => .inl (.inl h)) (fun h => .inr (by omega))) hc2⟩) (ItemsRep.mono hk2 hs2 hIt.out))
  rw [hQ2.out] at hse
  simp only [List.length_append, List.length_cons, List.length_nil, Nat.zero_add] at hse
  replace hse := hid_e (seen_less (by omega) hse)
  obtain ⟨y0, y1, y2, y3, y4, -⟩ := row_cells n15
  obtain ⟨z0, z1, z2, z3, z4, zf⟩ := row_cells hT.three
  have zf0 := zf 0; have zf1 := zf 1; have zf2 := zf 2; have zf3 := zf 3; have zf4 := zf 4
  clear zf
  go_wp2_with fail
  obtain ⟨hfe, hbe⟩ := rs_end hT h0.size hse.out (.int .i64 6) (.int .i64 0) (.string ⟨#[]⟩) (.slice (some ⟨gb, 0, none⟩) (KN.length + 1) capb) (.slice (some ⟨ga, 0, none⟩) (KI.length + 1) capa)
  have hr5 := put5_cells hT.three (.int .i64 6) (.int .i64 0) (.string ⟨#[]⟩) (.slice (some ⟨gb, 0, none⟩) (KN.length + 1) capb) (.slice (some ⟨ga, 0, none⟩) (KI.length + 1) capa)
  have r0 := hr5 0; have r1 := hr5 1; have r2 := hr5 2; have r3 := hr5 3; have r4 := hr5 4
  clear hr5
  refine bodyPost_ret (v := .tuple #[.agg #[.int .i64 6, .int .i64 0, .string ⟨#[]⟩, .slice (some ⟨gb, 0, none⟩) (KN.length + 1) capb, (.slice (some ⟨ga, 0, none⟩) (KI.length + 1) capa)], .int .i64 0]) (by simp [results, Try.results20, go_sem, r0, r1, r2, r3, r4]) rfl ?_
  exact ⟨_, _, _, _, _, _, _, _, _, rfl, hfe, hbe⟩
end Go.Proofs.Ytmlbofbnklmedaa
