import Derived.Test.YtmlbofbnklmedaaT3
/-! The document's Set: a list's item. -/
namespace Go.Proofs.Ytmlbofbnklmedaa
open Go Go.RowKit

set_option maxHeartbeats 16000000 in
set_option maxRecDepth 100000 in
theorem rset_hit5 (x : Int) (tx : ByteArray) (an : Option Addr) (cn : Nat) (ns : List ByteArray) (ai : Option Addr) (ci : Nat) (its : List Tr) (kx xx : Int) (sx : ByteArray) (anx : Option Addr) (lnx cnx : Nat) (aix : Option Addr) (lix cix : Nat) (b o c : Nat) (s : ByteArray) (r : List ByteArray) (w0 w : World) (h0 : Below w0.heap.size w0 w) (hs : s.size ≤ 9223372036854775806) (hc : r.length + 1 ≤ c ∧ c ≤ 9223372036854775807) (o2 : Nat) (ho2 : Hid ((if c = 1 then o else o + 1) = o2)) (hp : w0.cell? ⟨b, o, none⟩ = some (.string s)) (hV : Hid (VRep w0 (.node 5 x tx ns its) (five 5 x tx (.slice an ns.length cn) (.slice ai its.length ci)))) (hb80 : (its.length + 1) * 80 ≤ 140737488355328) (N : Nat) (hi1 : (idx s).getD 0 = N) (hi2 : (idx s).isSome = true) (i : Nat) (u : Tr) (hu : Hid (its[i]? = some u)) (hpl : Hid (rplace 5 ns its.length s = (i : Int))) (him : Hid (i < (keepIts 5 ns its).length)) (d : Int) (R : Tr) (hrec : Hid (∀ cs W, VRep w0 u cs → Below w0.heap.size w0 W → Calls Try.prog 20 #[.agg cs.toArray, .slice (some ⟨b, o2, none⟩) r.length (c - 1), .agg #[.int .i64 kx, .int .i64 xx, .string sx, .slice anx lnx cnx, .slice aix lix cix]] W (RS w0 W d R))) :
    Calls Try.prog 20 #[.agg #[.int .i64 5, .int .i64 x, .string tx, .slice an ns.length cn, .slice ai its.length ci], .slice (some ⟨b, o, none⟩) (r.length + 1) c, .agg #[.int .i64 kx, .int .i64 xx, .string sx, .slice anx lnx cnx, .slice aix lix cix]] w (RS w0 w d (if d = 0 then withT 5 ns its s i R else zeroT)) := by
  obtain ⟨Q, hQ⟩ : ∃ Q, Hid ((if d = 0 then withT 5 ns its s i R else zeroT) = Q) := ⟨_, hid_e rfl⟩
  rw [hQ.out]
  obtain ⟨hN, hcb, hI⟩ : Reads w0 (.slice an ns.length cn) ns ∧ (its.length ≤ ci ∧ ci ≤ 9223372036854775807) ∧ (its = [] ∨ ∃ g q, ai = some ⟨g, q, none⟩ ∧ g < w0.heap.size ∧ VRepL w0 g q its) := by
    have h := hV.out
    unfold VRep at h
    obtain ⟨nm, a9, c9, e, h1, h2, h3⟩ := h
    simp only [five, List.cons.injEq, Value.slice.injEq, true_and, and_true] at e
    obtain ⟨rfl, rfl, rfl⟩ := e
    exact ⟨h1, h2, h3⟩
  replace hN := hid_e hN
  have hil : its.length ≤ 9223372036854775807 := by omega
  have hlt : i < its.length := (List.getElem?_eq_some_iff.1 hu.out).1
  obtain ⟨g2, q2, rfl, hlt2, hVL⟩ := hI.resolve_left (by intro e; subst e; simp at hlt)
  obtain ⟨cs, hia, hr⟩ := VRepL.at its q2 i u hVL hu.out
  obtain ⟨k2, x2, s2, an2, ln2, cn2, ai2, li2, ci2, rfl⟩ := vrep_five hr
  have hcall := hid_e (fun W (hW : Below w0.heap.size w0 W) => hrec.out _ W hr hW)
  replace hia := hid_e hia
  clear hrec hVL hr hI
  have j0 : (0 : Int) ≤ (i : Int) := by omega
  have j1 : (i : Int) < (its.length : Int) := by omega
  have hidx := idx_v (s := s) (N := N) (bs := true) hi1 hi2
  have hT := tri_new w #[.int .i64 5, .int .i64 x, .string tx, .slice an ns.length cn, .slice (some ⟨g2, q2, none⟩) its.length ci] #[.int .i64 kx, .int .i64 xx, .string sx, .slice anx lnx cnx, .slice aix lix cix]
  have hne : ((((r.length + 1 : Nat) : Int)) == 0) = false := by simp; omega
  have hne2 : (((r.length : Int) + 1) == 0) = false := by simp; omega
  have i0 : (0 : Int) < ((r.length + 1 : Nat) : Int) := by omega
  have i00 : (0 : Int) < (r.length : Int) + 1 := by omega
  go_enter Try.func20, Try.ntmps20
  go_upto_region 1 with fail
  generalize ((w.alloc (.cells #[.int .i64 5, .int .i64 x, .string tx, .slice an ns.length cn, .slice (some ⟨g2, q2, none⟩) its.length ci] 25)).alloc (.cells #[.int .i64 kx, .int .i64 xx, .string sx, .slice anx lnx cnx, .slice aix lix cix] 25)).alloc (.cells #[.int .i64 0, .int .i64 0, .string ⟨#[]⟩, .slice none 0 0, .slice none 0 0] 25) = X0 at hT ⊢
  have c0 : X0.cell? ⟨b, o, none⟩ = some (.string s) := ((h0.trans (hT.below.mono h0.size)).cell (cell_lt hp)).trans hp
  obtain ⟨y0, y1, y2, y3, y4, -⟩ := row_cells hT.one
  go_wp2_with fail
  go_fit (rindex_any s hs X0)
  rintro e w1 ⟨rfl, hw⟩
  subst hw
  rw [hidx]
  clear hidx
  go_upto_region 7 with fail
  clear y0 y1 y2 y3 y4
  replace hT := hT.drew
  replace c0 : w1.drew.cell? ⟨b, o, none⟩ = some (.string s) := c0
  generalize hX : w1.drew = X9 at hT c0
  refine wp_region_noPanic ?_
  refine Until.wp_region_U (fun w' => Tri w #[.int .i64 5, .int .i64 x, .string tx, .slice an ns.length cn, .slice (some ⟨g2, q2, none⟩) its.length ci] #[.int .i64 kx, .int .i64 xx, .string sx, .slice anx lnx cnx, .slice aix lix cix] w' ∧ w'.cell? ⟨b, o, none⟩ = some (.string s)) (fun _ => True) 100 (by kernel_rfl) ?_
  rw [hX]
  clear hX
  refine Until.wpU_load0 (i := 0) (oi := { dst := some 41, op := Op.load 25 (Operand.tmp 3), type := 25, pos := "ref.go:166", after := #[], guard := none }) (v := .agg #[.int .i64 5, .int .i64 x, .string tx, .slice an ns.length cn, .slice (some ⟨g2, q2, none⟩) its.length ci]) rfl (by kernel_rfl) (by kernel_rfl) (by kernel_rfl) (by kernel_rfl) (by kernel_rfl) (fun _ _ _ h => h) ⟨hT, c0⟩ (fun _ => trivial) (by rfl) (by intro w' hw'; obtain ⟨t0, t1, t2, t3, t4, -⟩ := row_cells hw'.1.one; clear hw'; go_simp) ?_
  try simp only [Act.put, List.setIfInBounds_toArray, List.set_cons_zero, List.set_cons_succ]
  refine Until.wpU_pure (i := 1) (oi := { dst := some 42, op := Op.move (Operand.tmp 1), type := 22, pos := "ref.go:166", after := #[], guard := none }) (v := .slice (some ⟨b, o, none⟩) (r.length + 1) c) rfl (by kernel_rfl) (by kernel_rfl) (by kernel_rfl) (by kernel_rfl) (by kernel_rfl) (fun _ _ _ h => h) ⟨hT, c0⟩ (fun _ => trivial) (by rfl) (by intro w'; go_simp) ?_
  try simp only [Act.put, List.setIfInBounds_toArray, List.set_cons_zero, List.set_cons_succ]
  refine Until.wpU_pure (i := 2) (oi := { dst := some 43, op := Op.indexAddr 22 (Operand.tmp 42) (Operand.const (Value.int IntKind.i64 0)), type := 0, pos := "ref.go:166", after := #[{ on := 1, ground := Ground.data }], guard := none }) (v := .pointer (some ⟨b, o, none⟩)) rfl (by kernel_rfl) (by kernel_rfl) (by kernel_rfl) (by kernel_rfl) (by kernel_rfl) (fun _ _ _ h => h) ⟨hT, c0⟩ (fun _ => trivial) (by rfl) (by intro w'; go_simp) ?_
  try simp only [Act.put, List.setIfInBounds_toArray, List.set_cons_zero, List.set_cons_succ]
  refine Until.wpU_load0 (i := 3) (oi := { dst := some 44, op := Op.load 9 (Operand.tmp 43), type := 9, pos := "ref.go:166", after := #[{ on := 2, ground := Ground.data }], guard := none }) (v := .string s) rfl (by kernel_rfl) (by kernel_rfl) (by kernel_rfl) (by kernel_rfl) (by kernel_rfl) (fun _ _ _ h => h) ⟨hT, c0⟩ (fun _ => trivial) (by rfl) (by intro w' hw'; have t0 := hw'.2; clear hw'; go_simp) ?_
  try simp only [Act.put, List.setIfInBounds_toArray, List.set_cons_zero, List.set_cons_succ]
  refine Until.wpU_ready (rs := [4]) (by kernel_rfl) (by simp) ?_
  refine (Until.AllU.cons (o := { dst := some 45, op := Op.call { callee := Callee.value (Operand.func 36), args := #[Operand.tmp 41, Operand.tmp 44], argTypes := #[25, 9] }, type := 3, pos := "ref.go:166", after := #[{ on := 0, ground := Ground.data }, { on := 3, ground := Ground.data }], guard := none }) rfl (fun K hK => ?_) Until.AllU.nil)
  go_simp
  refine (rplace_any 5 x tx an cn ns (some ⟨g2, q2, none⟩) its.length ci s _ (hid_f (hN.out.keep (h0.trans (hT.below.mono h0.size)))) hil hs).mono ?_
  rintro e X1 ⟨rfl, hb⟩
  rw [hpl.out]
  replace hT := hT.keep hb
  replace c0 := (hb.cell (cell_lt c0)).trans c0
  clear hb
  refine hK.out _ _ ⟨hT, c0⟩ (fun _ => trivial) ?_
  clear hK K
  try simp only [Act.put, List.setIfInBounds_toArray, List.set_cons_zero, List.set_cons_succ]
  refine Until.wpU_ready (rs := [5]) (by kernel_rfl) (by simp) ?_
  refine (Until.AllU.cons (o := { dst := some 11, op := Op.assign (Operand.tmp 45), type := 3, pos := "ref.go:166", after := #[{ on := 4, ground := Ground.data }, { on := 4, ground := Ground.chain }, { on := 0, ground := Ground.phase }, { on := 1, ground := Ground.phase }, { on := 2, ground := Ground.phase }, { on := 3, ground := Ground.phase }, { on := 4, ground := Ground.phase }], guard := none }) rfl (fun K hK => ?_) Until.AllU.nil)
  go_simp
  refine hK.out _ _ ⟨hT, c0⟩ (fun _ => trivial) ?_
  clear hK K
  try simp only [Act.put, List.setIfInBounds_toArray, List.set_cons_zero, List.set_cons_succ]
  refine Until.wpU_done (by kernel_rfl) ?_ _
  refine NoPanic.normal ?_
  go_upto_region 9 with fail
  go_cut [12, 13] (fun pv dv wx => ∃ (g : Nat) (k3 x3 : Int) (s3 : ByteArray) (an3 : Option Addr) (ln3 cn3 : Nat) (ai3 : Option Addr) (li3 ci3 : Nat), pv = .pointer (some ⟨g, 0, none⟩) ∧ dv = .int .i64 d ∧ Hid (HitAt w0 w #[.int .i64 5, .int .i64 x, .string tx, .slice an ns.length cn, .slice (some ⟨g2, q2, none⟩) its.length ci] #[.int .i64 kx, .int .i64 xx, .string sx, .slice anx lnx cnx, .slice aix lix cix] R g #[.int .i64 k3, .int .i64 x3, .string s3, .slice an3 ln3 cn3, .slice ai3 li3 ci3] wx))
  case first =>
    replace hT := hT.drew
    replace c0 : X1.drew.cell? ⟨b, o, none⟩ = some (.string s) := c0
    generalize hX : X1.drew = X8 at hT c0
    refine wp_region_noPanic ?_
    refine Until.wp_region_U (fun w' => Tri w #[.int .i64 5, .int .i64 x, .string tx, .slice an ns.length cn, .slice (some ⟨g2, q2, none⟩) its.length ci] #[.int .i64 kx, .int .i64 xx, .string sx, .slice anx lnx cnx, .slice aix lix cix] w' ∧ w'.cell? ⟨b, o, none⟩ = some (.string s)) (fun _ => True) 100 (by kernel_rfl) ?_
    rw [hX]
    clear hX
    refine Until.wpU_pure (i := 0) (oi := { dst := some 49, op := Op.fieldAddr 25 (Operand.tmp 3) 4, type := 0, pos := "ref.go:168", after := #[], guard := none }) (v := .pointer (some ⟨w.heap.size, 4, none⟩)) rfl (by kernel_rfl) (by kernel_rfl) (by kernel_rfl) (by kernel_rfl) (by kernel_rfl) (fun _ _ _ h => h) ⟨hT, c0⟩ (fun _ => trivial) (by rfl) (by intro w'; go_simp) ?_
    try simp only [Act.put, List.setIfInBounds_toArray, List.set_cons_zero, List.set_cons_succ]
    refine Until.wpU_load0 (i := 1) (oi := { dst := some 50, op := Op.load 23 (Operand.tmp 49), type := 23, pos := "ref.go:168", after := #[{ on := 0, ground := Ground.data }], guard := none }) (v := .slice (some ⟨g2, q2, none⟩) its.length ci) rfl (by kernel_rfl) (by kernel_rfl) (by kernel_rfl) (by kernel_rfl) (by kernel_rfl) (fun _ _ _ h => h) ⟨hT, c0⟩ (fun _ => trivial) (by rfl) (by intro w' hw'; obtain ⟨t0, t1, t2, t3, t4, -⟩ := row_cells hw'.1.one; clear hw'; go_simp) ?_
    try simp only [Act.put, List.setIfInBounds_toArray, List.set_cons_zero, List.set_cons_succ]
    refine Until.wpU_pure (i := 2) (oi := { dst := some 51, op := Op.move (Operand.tmp 11), type := 3, pos := "ref.go:168", after := #[], guard := none }) (v := .int .i64 (i : Int)) rfl (by kernel_rfl) (by kernel_rfl) (by kernel_rfl) (by kernel_rfl) (by kernel_rfl) (fun _ _ _ h => h) ⟨hT, c0⟩ (fun _ => trivial) (by rfl) (by intro w'; go_simp) ?_
    try simp only [Act.put, List.setIfInBounds_toArray, List.set_cons_zero, List.set_cons_succ]
    refine Until.wpU_pure (i := 3) (oi := { dst := some 52, op := Op.indexAddr 23 (Operand.tmp 50) (Operand.tmp 51), type := 0, pos := "ref.go:168", after := #[{ on := 1, ground := Ground.data }, { on := 2, ground := Ground.data }], guard := none }) (v := .pointer (some ⟨g2, q2 + i * 5, none⟩)) rfl (by kernel_rfl) (by kernel_rfl) (by kernel_rfl) (by kernel_rfl) (by kernel_rfl) (fun _ _ _ h => h) ⟨hT, c0⟩ (fun _ => trivial) (by rfl) (by intro w'; go_simp) ?_
    try simp only [Act.put, List.setIfInBounds_toArray, List.set_cons_zero, List.set_cons_succ]
    refine Until.wpU_load0 (i := 4) (oi := { dst := some 53, op := Op.load 25 (Operand.tmp 52), type := 25, pos := "ref.go:168", after := #[{ on := 3, ground := Ground.data }], guard := none }) (v := .agg #[.int .i64 k2, .int .i64 x2, .string s2, .slice an2 ln2 cn2, .slice ai2 li2 ci2]) rfl (by kernel_rfl) (by kernel_rfl) (by kernel_rfl) (by kernel_rfl) (by kernel_rfl) (fun _ _ _ h => h) ⟨hT, c0⟩ (fun _ => trivial) (by rfl) (by
      intro w' hw'
      have hBw := h0.trans (hw'.1.below.mono h0.size)
      have t0 := stay hBw (hia.out 0 _ rfl)
      have t1 := stay hBw (hia.out 1 _ rfl)
      have t2 := stay hBw (hia.out 2 _ rfl)
      have t3 := stay hBw (hia.out 3 _ rfl)
      have t4 := stay hBw (hia.out 4 _ rfl)
      simp only [Nat.add_zero] at t0
      clear hw' hBw
      go_simp) ?_
    try simp only [Act.put, List.setIfInBounds_toArray, List.set_cons_zero, List.set_cons_succ]
    refine Until.wpU_pure (i := 5) (oi := { dst := some 54, op := Op.move (Operand.tmp 1), type := 22, pos := "ref.go:168", after := #[], guard := none }) (v := .slice (some ⟨b, o, none⟩) (r.length + 1) c) rfl (by kernel_rfl) (by kernel_rfl) (by kernel_rfl) (by kernel_rfl) (by kernel_rfl) (fun _ _ _ h => h) ⟨hT, c0⟩ (fun _ => trivial) (by rfl) (by intro w'; go_simp) ?_
    try simp only [Act.put, List.setIfInBounds_toArray, List.set_cons_zero, List.set_cons_succ]
    refine Until.wpU_pure (i := 6) (oi := { dst := some 55, op := Op.slice 22 (Operand.tmp 54) (some (Operand.const (Value.int IntKind.i64 1))) none none, type := 22, pos := "ref.go:168", after := #[{ on := 5, ground := Ground.data }], guard := none }) (v := .slice (some ⟨b, o2, none⟩) r.length (c - 1)) rfl (by kernel_rfl) (by kernel_rfl) (by kernel_rfl) (by kernel_rfl) (by kernel_rfl) (fun _ _ _ h => h) ⟨hT, c0⟩ (fun _ => trivial) (by rfl) (by
      intro w'
      rw [← ho2.out]
      by_cases hc1 : c = 1
      · have hr0 : r.length = 0 := by omega
        have hl1 : (1 : Int) ≤ (r.length : Int) + 1 := by omega
        subst hc1
        rw [if_pos rfl]
        simp only [hr0] at hl1 ⊢
        go_simp
      · rw [if_neg hc1]
        have hl1 : (1 : Int) ≤ (r.length : Int) + 1 := by omega
        have hl2 : ¬ ((r.length : Int) + 1 < 1) := by omega
        go_simp) ?_
    try simp only [Act.put, List.setIfInBounds_toArray, List.set_cons_zero, List.set_cons_succ]
    refine Until.wpU_load0 (i := 7) (oi := { dst := some 56, op := Op.load 25 (Operand.tmp 5), type := 25, pos := "ref.go:168", after := #[], guard := none }) (v := .agg #[.int .i64 kx, .int .i64 xx, .string sx, .slice anx lnx cnx, .slice aix lix cix]) rfl (by kernel_rfl) (by kernel_rfl) (by kernel_rfl) (by kernel_rfl) (by kernel_rfl) (fun _ _ _ h => h) ⟨hT, c0⟩ (fun _ => trivial) (by rfl) (by intro w' hw'; obtain ⟨t0, t1, t2, t3, t4, -⟩ := row_cells hw'.1.two; clear hw'; go_simp) ?_
    try simp only [Act.put, List.setIfInBounds_toArray, List.set_cons_zero, List.set_cons_succ]
    refine Until.wpU_ready (rs := [8, 12]) (by kernel_rfl) (by simp) ?_
    refine (Until.AllU.cons (o := { dst := some 57, op := Op.call { callee := Callee.value (Operand.func 20), args := #[Operand.tmp 53, Operand.tmp 55, Operand.tmp 56], argTypes := #[25, 22, 25] }, type := 47, pos := "ref.go:168", after := #[{ on := 4, ground := Ground.data }, { on := 6, ground := Ground.data }, { on := 7, ground := Ground.data }], guard := none }) rfl (fun K hK => ?_) (Until.AllU.cons (o := { dst := some 12, op := Op.alloc 25, type := 0, pos := "ref.go:168", after := #[], guard := none }) rfl (fun K hK => ?_) Until.AllU.nil))
    · go_simp
      refine (hcall.out X8 (h0.trans (hT.below.mono h0.size))).mono ?_
      rintro e Y1 ⟨k3, x3, s3, an3, ln3, cn3, ai3, li3, ci3, rfl, hsy, hb⟩
      have hlo := hT.lt
      replace hT := hT.keep hb
      replace c0 := (hb.cell (cell_lt c0)).trans c0
      clear hb
      refine hK.out _ _ ⟨hT, c0⟩ (fun _ => trivial) ?_
      clear hK K
      try simp only [Act.put, List.setIfInBounds_toArray, List.set_cons_zero, List.set_cons_succ]
      refine Until.wpU_pure (i := 9) (oi := { dst := some 48, op := Op.move (Operand.tmp 57), type := 47, pos := "ref.go:168", after := #[{ on := 8, ground := Ground.data }], guard := none }) (v := .tuple #[.agg #[.int .i64 k3, .int .i64 x3, .string s3, .slice an3 ln3 cn3, .slice ai3 li3 ci3], .int .i64 d]) rfl (by kernel_rfl) (by kernel_rfl) (by kernel_rfl) (by kernel_rfl) (by kernel_rfl) (fun _ _ _ h => h) ⟨hT, c0⟩ (fun _ => trivial) (by rfl) (by intro w'; go_simp) ?_
      try simp only [Act.put, List.setIfInBounds_toArray, List.set_cons_zero, List.set_cons_succ]
      refine Until.wpU_pure (i := 10) (oi := { dst := some 58, op := Op.extract (Operand.tmp 48) 0, type := 25, pos := "ref.go:168", after := #[{ on := 9, ground := Ground.data }], guard := none }) (v := .agg #[.int .i64 k3, .int .i64 x3, .string s3, .slice an3 ln3 cn3, .slice ai3 li3 ci3]) rfl (by kernel_rfl) (by kernel_rfl) (by kernel_rfl) (by kernel_rfl) (by kernel_rfl) (fun _ _ _ h => h) ⟨hT, c0⟩ (fun _ => trivial) (by rfl) (by intro w'; go_simp) ?_
      try simp only [Act.put, List.setIfInBounds_toArray, List.set_cons_zero, List.set_cons_succ]
      refine Until.wpU_pure (i := 11) (oi := { dst := some 59, op := Op.extract (Operand.tmp 48) 1, type := 3, pos := "ref.go:168", after := #[{ on := 9, ground := Ground.data }, { on := 13, ground := Ground.gcOnly Departure.lateStores }], guard := none }) (v := .int .i64 d) rfl (by kernel_rfl) (by kernel_rfl) (by kernel_rfl) (by kernel_rfl) (by kernel_rfl) (fun _ _ _ h => h) ⟨hT, c0⟩ (fun _ => trivial) (by rfl) (by intro w'; go_simp) ?_
      try simp only [Act.put, List.setIfInBounds_toArray, List.set_cons_zero, List.set_cons_succ]
      refine Until.wpU_ready (rs := [12]) (by kernel_rfl) (by simp) ?_
      refine (Until.AllU.cons (o := { dst := some 12, op := Op.alloc 25, type := 0, pos := "ref.go:168", after := #[], guard := none }) rfl (fun K hK => ?_) Until.AllU.nil)
      go_simp
      have hg := hT.lt
      have n12 := heap_alloc_new Y1 (.cells #[.int .i64 0, .int .i64 0, .string ⟨#[]⟩, .slice none 0 0, .slice none 0 0] 25)
      replace hT := hT.alloc (.cells #[.int .i64 0, .int .i64 0, .string ⟨#[]⟩, .slice none 0 0, .slice none 0 0] 25)
      replace c0 := cell_alloc' c0 (.cells #[.int .i64 0, .int .i64 0, .string ⟨#[]⟩, .slice none 0 0, .slice none 0 0] 25)
      replace hsy := seen_new hlo hsy (.cells #[.int .i64 0, .int .i64 0, .string ⟨#[]⟩, .slice none 0 0, .slice none 0 0] 25)
      refine hK.out _ _ ⟨hT, c0⟩ (fun _ => trivial) ?_
      clear hK K
      try simp only [Act.put, List.setIfInBounds_toArray, List.set_cons_zero, List.set_cons_succ]
      generalize Y1.alloc (.cells #[.int .i64 0, .int .i64 0, .string ⟨#[]⟩, .slice none 0 0, .slice none 0 0] 25) = W2 at n12 hT c0 hsy ⊢
      obtain ⟨g3, hq9⟩ : ∃ g, Y1.heap.size = g := ⟨_, rfl⟩
      rw [hq9] at n12 hg hsy
      rw [hq9]
      clear hq9
      obtain ⟨z0, z1, z2, z3, z4, zf⟩ := row_cells n12
      have zf0 := zf 0; have zf1 := zf 1; have zf2 := zf 2; have zf3 := zf 3; have zf4 := zf 4
      clear zf
      refine Until.wpU_ready (rs := [13]) (by kernel_rfl) (by simp) ?_
      refine (Until.AllU.cons (o := { dst := none, op := Op.store 25 (Operand.tmp 12) (Operand.tmp 58), type := 0, pos := "ref.go:168", after := #[{ on := 12, ground := Ground.data }, { on := 10, ground := Ground.data }, { on := 8, ground := Ground.chain }, { on := 0, ground := Ground.phase }, { on := 1, ground := Ground.phase }, { on := 2, ground := Ground.phase }, { on := 3, ground := Ground.phase }, { on := 4, ground := Ground.phase }, { on := 5, ground := Ground.phase }, { on := 6, ground := Ground.phase }, { on := 7, ground := Ground.phase }, { on := 8, ground := Ground.phase }, { on := 9, ground := Ground.phase }, { on := 10, ground := Ground.phase }, { on := 11, ground := Ground.textOnly Departure.lateStores }, { on := 12, ground := Ground.phase }], guard := none }) rfl (fun K hK => ?_) Until.AllU.nil)
      go_simp
      have hfin := hid_e (hit_put hT hg h0.size n12 hsy)
      have c3 : (put5 W2 g3 (.int .i64 k3) (.int .i64 x3) (.string s3) (.slice an3 ln3 cn3) (.slice ai3 li3 ci3)).cell? ⟨b, o, none⟩ = some (.string s) := (World.cell?_of_block (w := W2) (a := ⟨b, o, none⟩) (put5_far _ _ _ _ _ (show b ≠ g3 by have h1 := cell_lt hp; have h2 := h0.size; simp only at h1; omega))).trans c0
      refine hK.out _ _ ⟨hfin.out.tri, c3⟩ (fun _ => trivial) ?_
      clear hK K
      try simp only [Act.put, List.setIfInBounds_toArray, List.set_cons_zero, List.set_cons_succ]
      clear z0 z1 z2 z3 z4 zf0 zf1 zf2 zf3 zf4
      refine Until.wpU_ready (rs := [14]) (by kernel_rfl) (by simp) ?_
      refine (Until.AllU.cons (o := { dst := some 13, op := Op.assign (Operand.tmp 59), type := 3, pos := "ref.go:168", after := #[{ on := 11, ground := Ground.data }, { on := 13, ground := Ground.chain }, { on := 0, ground := Ground.phase }, { on := 1, ground := Ground.phase }, { on := 2, ground := Ground.phase }, { on := 3, ground := Ground.phase }, { on := 4, ground := Ground.phase }, { on := 5, ground := Ground.phase }, { on := 6, ground := Ground.phase }, { on := 7, ground := Ground.phase }, { on := 8, ground := Ground.phase }, { on := 9, ground := Ground.phase }, { on := 10, ground := Ground.phase }, { on := 11, ground := Ground.phase }, { on := 12, ground := Ground.phase }, { on := 13, ground := Ground.phase }], guard := none }) rfl (fun K hK => ?_) Until.AllU.nil)
      go_simp
      refine hK.out _ _ ⟨hfin.out.tri, c3⟩ (fun _ => trivial) ?_
      clear hK K
      try simp only [Act.put, List.setIfInBounds_toArray, List.set_cons_zero, List.set_cons_succ]
      refine Until.wpU_done (by kernel_rfl) ?_ _
      refine NoPanic.normal ?_
      go_wp2_with fail
      go_meet
      exact ⟨_, _, _, _, _, _, _, _, _, _, rfl, rfl, hfin⟩
    · go_simp
      have hg := hT.lt
      have n12 := heap_alloc_new X8 (.cells #[.int .i64 0, .int .i64 0, .string ⟨#[]⟩, .slice none 0 0, .slice none 0 0] 25)
      have hz9 : (X8.alloc (.cells #[.int .i64 0, .int .i64 0, .string ⟨#[]⟩, .slice none 0 0, .slice none 0 0] 25)).heap.size = X8.heap.size + 1 := World.size_alloc _ _
      replace hT := hT.alloc (.cells #[.int .i64 0, .int .i64 0, .string ⟨#[]⟩, .slice none 0 0, .slice none 0 0] 25)
      replace c0 := cell_alloc' c0 (.cells #[.int .i64 0, .int .i64 0, .string ⟨#[]⟩, .slice none 0 0, .slice none 0 0] 25)
      refine hK.out _ _ ⟨hT, c0⟩ (fun _ => trivial) ?_
      clear hK K
      try simp only [Act.put, List.setIfInBounds_toArray, List.set_cons_zero, List.set_cons_succ]
      generalize X8.alloc (.cells #[.int .i64 0, .int .i64 0, .string ⟨#[]⟩, .slice none 0 0, .slice none 0 0] 25) = W2 at n12 hT c0 hz9 ⊢
      obtain ⟨g3, hq9⟩ : ∃ g, X8.heap.size = g := ⟨_, rfl⟩
      rw [hq9] at n12 hg hz9
      rw [hq9]
      clear hq9
      refine Until.wpU_ready (rs := [8]) (by kernel_rfl) (by simp) ?_
      refine (Until.AllU.cons (o := { dst := some 57, op := Op.call { callee := Callee.value (Operand.func 20), args := #[Operand.tmp 53, Operand.tmp 55, Operand.tmp 56], argTypes := #[25, 22, 25] }, type := 47, pos := "ref.go:168", after := #[{ on := 4, ground := Ground.data }, { on := 6, ground := Ground.data }, { on := 7, ground := Ground.data }], guard := none }) rfl (fun K hK => ?_) Until.AllU.nil)
      go_simp
      refine (hcall.out W2 (h0.trans (hT.below.mono h0.size))).mono ?_
      rintro e Y1 ⟨k3, x3, s3, an3, ln3, cn3, ai3, li3, ci3, rfl, hsy, hb⟩
      replace hsy := seen_behind hg (by omega) hsy
      replace n12 := (hb.block _ (Array.getElem?_eq_some_iff.1 n12).1).trans n12
      replace hT := hT.keep hb
      replace c0 := (hb.cell (cell_lt c0)).trans c0
      clear hb hz9
      refine hK.out _ _ ⟨hT, c0⟩ (fun _ => trivial) ?_
      clear hK K
      try simp only [Act.put, List.setIfInBounds_toArray, List.set_cons_zero, List.set_cons_succ]
      refine Until.wpU_pure (i := 9) (oi := { dst := some 48, op := Op.move (Operand.tmp 57), type := 47, pos := "ref.go:168", after := #[{ on := 8, ground := Ground.data }], guard := none }) (v := .tuple #[.agg #[.int .i64 k3, .int .i64 x3, .string s3, .slice an3 ln3 cn3, .slice ai3 li3 ci3], .int .i64 d]) rfl (by kernel_rfl) (by kernel_rfl) (by kernel_rfl) (by kernel_rfl) (by kernel_rfl) (fun _ _ _ h => h) ⟨hT, c0⟩ (fun _ => trivial) (by rfl) (by intro w'; go_simp) ?_
      try simp only [Act.put, List.setIfInBounds_toArray, List.set_cons_zero, List.set_cons_succ]
      refine Until.wpU_pure (i := 10) (oi := { dst := some 58, op := Op.extract (Operand.tmp 48) 0, type := 25, pos := "ref.go:168", after := #[{ on := 9, ground := Ground.data }], guard := none }) (v := .agg #[.int .i64 k3, .int .i64 x3, .string s3, .slice an3 ln3 cn3, .slice ai3 li3 ci3]) rfl (by kernel_rfl) (by kernel_rfl) (by kernel_rfl) (by kernel_rfl) (by kernel_rfl) (fun _ _ _ h => h) ⟨hT, c0⟩ (fun _ => trivial) (by rfl) (by intro w'; go_simp) ?_
      try simp only [Act.put, List.setIfInBounds_toArray, List.set_cons_zero, List.set_cons_succ]
      refine Until.wpU_pure (i := 11) (oi := { dst := some 59, op := Op.extract (Operand.tmp 48) 1, type := 3, pos := "ref.go:168", after := #[{ on := 9, ground := Ground.data }, { on := 13, ground := Ground.gcOnly Departure.lateStores }], guard := none }) (v := .int .i64 d) rfl (by kernel_rfl) (by kernel_rfl) (by kernel_rfl) (by kernel_rfl) (by kernel_rfl) (fun _ _ _ h => h) ⟨hT, c0⟩ (fun _ => trivial) (by rfl) (by intro w'; go_simp) ?_
      try simp only [Act.put, List.setIfInBounds_toArray, List.set_cons_zero, List.set_cons_succ]
      obtain ⟨z0, z1, z2, z3, z4, zf⟩ := row_cells n12
      have zf0 := zf 0; have zf1 := zf 1; have zf2 := zf 2; have zf3 := zf 3; have zf4 := zf 4
      clear zf
      refine Until.wpU_ready (rs := [13]) (by kernel_rfl) (by simp) ?_
      refine (Until.AllU.cons (o := { dst := none, op := Op.store 25 (Operand.tmp 12) (Operand.tmp 58), type := 0, pos := "ref.go:168", after := #[{ on := 12, ground := Ground.data }, { on := 10, ground := Ground.data }, { on := 8, ground := Ground.chain }, { on := 0, ground := Ground.phase }, { on := 1, ground := Ground.phase }, { on := 2, ground := Ground.phase }, { on := 3, ground := Ground.phase }, { on := 4, ground := Ground.phase }, { on := 5, ground := Ground.phase }, { on := 6, ground := Ground.phase }, { on := 7, ground := Ground.phase }, { on := 8, ground := Ground.phase }, { on := 9, ground := Ground.phase }, { on := 10, ground := Ground.phase }, { on := 11, ground := Ground.textOnly Departure.lateStores }, { on := 12, ground := Ground.phase }], guard := none }) rfl (fun K hK => ?_) Until.AllU.nil)
      go_simp
      have hfin := hid_e (hit_put hT hg h0.size n12 hsy)
      have c3 : (put5 Y1 g3 (.int .i64 k3) (.int .i64 x3) (.string s3) (.slice an3 ln3 cn3) (.slice ai3 li3 ci3)).cell? ⟨b, o, none⟩ = some (.string s) := (World.cell?_of_block (w := Y1) (a := ⟨b, o, none⟩) (put5_far _ _ _ _ _ (show b ≠ g3 by have h1 := cell_lt hp; have h2 := h0.size; simp only at h1; omega))).trans c0
      refine hK.out _ _ ⟨hfin.out.tri, c3⟩ (fun _ => trivial) ?_
      clear hK K
      try simp only [Act.put, List.setIfInBounds_toArray, List.set_cons_zero, List.set_cons_succ]
      clear z0 z1 z2 z3 z4 zf0 zf1 zf2 zf3 zf4
      refine Until.wpU_ready (rs := [14]) (by kernel_rfl) (by simp) ?_
      refine (Until.AllU.cons (o := { dst := some 13, op := Op.assign (Operand.tmp 59), type := 3, pos := "ref.go:168", after := #[{ on := 11, ground := Ground.data }, { on := 13, ground := Ground.chain }, { on := 0, ground := Ground.phase }, { on := 1, ground := Ground.phase }, { on := 2, ground := Ground.phase }, { on := 3, ground := Ground.phase }, { on := 4, ground := Ground.phase }, { on := 5, ground := Ground.phase }, { on := 6, ground := Ground.phase }, { on := 7, ground := Ground.phase }, { on := 8, ground := Ground.phase }, { on := 9, ground := Ground.phase }, { on := 10, ground := Ground.phase }, { on := 11, ground := Ground.phase }, { on := 12, ground := Ground.phase }, { on := 13, ground := Ground.phase }], guard := none }) rfl (fun K hK => ?_) Until.AllU.nil)
      go_simp
      refine hK.out _ _ ⟨hfin.out.tri, c3⟩ (fun _ => trivial) ?_
      clear hK K
      try simp only [Act.put, List.setIfInBounds_toArray, List.set_cons_zero, List.set_cons_succ]
      refine Until.wpU_done (by kernel_rfl) ?_ _
      refine NoPanic.normal ?_
      go_wp2_with fail
      go_meet
      exact ⟨_, _, _, _, _, _, _, _, _, _, rfl, rfl, hfin⟩
  case rest =>
    clear hT c0 hcall hia
    obtain ⟨g3, k3, x3, s3, an3, ln3, cn3, ai3, li3, ci3, rfl, rfl, hH⟩ := hcut
    have hT := hH.out.tri
    by_cases hd : d = 0
    rotate_left
    · have hq := hQ.out
      rw [if_neg hd] at hq
      subst hq
      have hdb : (d != 0) = true := by simpa using hd
      obtain ⟨z0, z1, z2, z3, z4, zf⟩ := row_cells hT.three
      have zf0 := zf 0; have zf1 := zf 1; have zf2 := zf 2; have zf3 := zf 3; have zf4 := zf 4
      clear zf
      go_wp2_with fail
      obtain ⟨hse, hbe⟩ := rs_end hT h0.size (zero_seen _ _) (.int .i64 0) (.int .i64 0) (.string ⟨#[]⟩) (.slice none 0 0) (.slice none 0 0)
      have hr5 := put5_cells hT.three (.int .i64 0) (.int .i64 0) (.string ⟨#[]⟩) (.slice none 0 0) (.slice none 0 0)
      have r0 := hr5 0; have r1 := hr5 1; have r2 := hr5 2; have r3 := hr5 3; have r4 := hr5 4
      clear hr5
      refine bodyPost_ret (v := .tuple #[.agg #[.int .i64 0, .int .i64 0, .string ⟨#[]⟩, .slice none 0 0, .slice none 0 0], .int .i64 d]) (by simp [results, Try.results20, go_sem, r0, r1, r2, r3, r4]) rfl ?_
      exact ⟨0, 0, ⟨#[]⟩, _, _, _, _, _, _, rfl, hse, hbe⟩
    subst hd
    have hq := hid_e hQ.out
    rw [if_pos rfl] at hq
    clear hQ
    have hBc := h0.trans (hT.below.mono h0.size)
    obtain ⟨xs, hIt, hca⟩ := ranew_any 5 x tx ns its _ (.inl rfl) hb80 w0 wc hBc hV.out
    have hQ2 : Hid (.node 5 0 ⟨#[]⟩ (keepNs 5 ns its) ((keepIts 5 ns its).set i R) = Q) := by rw [Hid, ← hq.out]; unfold withT; rw [if_pos him.out]
    clear hq
    obtain ⟨KN, hKN⟩ : ∃ l, Hid (keepNs 5 ns its = l) := ⟨_, hid_e rfl⟩
    obtain ⟨KI, hKI⟩ : ∃ l, Hid (keepIts 5 ns its = l) := ⟨_, hid_e rfl⟩
    rw [hKN.out, hKI.out] at hca hQ2
    rw [hKI.out] at hIt him
    clear hKN hKI
    replace hIt := hid_e hIt
    replace hca := hid_e hca
    have hi2b : (i : Int) < (KI.length : Int) := by have := him.out; omega
    obtain ⟨y0, y1, y2, y3, y4, -⟩ := row_cells hT.one
    go_wp2_with fail
    clear y0 y1 y2 y3 y4
    go_fit hca.out
    rintro e Y2 ⟨nv, gi, cig, rfl, hb2, hn14, hi14⟩
    obtain ⟨a4, c4, rfl⟩ := ownsRow_slice hn14
    have hgi := ownsRow_ge hi14 (g := gi) rfl
    have hb4 : Below wc.heap.size wc (Y2.alloc (.cells #[.int .i64 5, .int .i64 0, .string ⟨#[]⟩, .slice a4 KN.length c4, .slice (some ⟨gi, 0, none⟩) KI.length cig] 25)) := hb2.alloc hb2.size _
    have n14 := heap_alloc_new Y2 (.cells #[.int .i64 5, .int .i64 0, .string ⟨#[]⟩, .slice a4 KN.length c4, .slice (some ⟨gi, 0, none⟩) KI.length cig] 25)
    have hT4 := hT.keep hb4
    have hbx := (hb4.block _ (Array.getElem?_eq_some_iff.1 hH.out.box).1).trans hH.out.box
    replace hn14 := hid_e (hn14.alloc (.cells #[.int .i64 5, .int .i64 0, .string ⟨#[]⟩, .slice a4 KN.length c4, .slice (some ⟨gi, 0, none⟩) KI.length cig] 25))
    replace hi14 := hid_e (hi14.alloc (.cells #[.int .i64 5, .int .i64 0, .string ⟨#[]⟩, .slice a4 KN.length c4, .slice (some ⟨gi, 0, none⟩) KI.length cig] 25))
    have hltT := hT.lt
    have hSy := hid_e hH.out.seen
    clear hca hb2 hH hT
    go_upto_region 13 with fail
    generalize Y2.alloc (.cells #[.int .i64 5, .int .i64 0, .string ⟨#[]⟩, .slice a4 KN.length c4, .slice (some ⟨gi, 0, none⟩) KI.length cig] 25) = W4 at hb4 n14 hT4 hbx hn14 hi14 ⊢
    obtain ⟨g4, hq9⟩ : ∃ g, Y2.heap.size = g := ⟨_, rfl⟩
    rw [hq9] at n14 hgi
    rw [hq9]
    clear hq9
    obtain ⟨u0, d0⟩ := row_at5 hi14.out (i * 5) (by have := him.out; omega)
    obtain ⟨u1, d1⟩ := row_at5 hi14.out (i * 5 + 1) (by have := him.out; omega)
    obtain ⟨u2, d2⟩ := row_at5 hi14.out (i * 5 + 2) (by have := him.out; omega)
    obtain ⟨u3, d3⟩ := row_at5 hi14.out (i * 5 + 3) (by have := him.out; omega)
    obtain ⟨u4, d4⟩ := row_at5 hi14.out (i * 5 + 4) (by have := him.out; omega)
    have f0 := hi14.out.frozenAt (i * 5)
    have f1 := hi14.out.frozenAt (i * 5 + 1)
    have f2 := hi14.out.frozenAt (i * 5 + 2)
    have f3 := hi14.out.frozenAt (i * 5 + 3)
    have f4 := hi14.out.frozenAt (i * 5 + 4)
    have r6 := (((((hi14.out.stored (i * 5) (.int .i64 k3)).1.stored (i * 5 + 1) (.int .i64 x3)).1.stored (i * 5 + 2) (.string s3)).1.stored (i * 5 + 3) (.slice an3 ln3 cn3)).1.stored (i * 5 + 4) (.slice ai3 li3 ci3)).1
    obtain ⟨W6, hW6⟩ : ∃ W6, Hid ((((((W4.setCell ⟨gi, i * 5, none⟩ (.int .i64 k3)).setCell ⟨gi, i * 5 + 1, none⟩ (.int .i64 x3)).setCell ⟨gi, i * 5 + 2, none⟩ (.string s3)).setCell ⟨gi, i * 5 + 3, none⟩ (.slice an3 ln3 cn3)).setCell ⟨gi, i * 5 + 4, none⟩ (.slice ai3 li3 ci3)) = W6) := ⟨_, hid_e rfl⟩
    rw [hW6.out] at r6
    replace r6 := hid_e r6
    have k6 : Hid (∀ j, j ≠ gi → W6.heap[j]? = W4.heap[j]?) := fun j hj => by rw [← hW6.out]; exact (Below.heap_setCell _ _ _ _ hj).trans ((Below.heap_setCell _ _ _ _ hj).trans ((Below.heap_setCell _ _ _ _ hj).trans ((Below.heap_setCell _ _ _ _ hj).trans (Below.heap_setCell _ _ _ _ hj))))
    have s6 : Hid (W6.heap.size = W4.heap.size) := by rw [Hid, ← hW6.out]; simp [World.setCell]
    have B6 : Below wc.heap.size wc W6 := ⟨by rw [← hW6.out]; exact hb4.os, by rw [← hW6.out]; exact hb4.tape, by rw [← hW6.out]; exact hb4.output, by rw [s6.out]; exact hb4.size, fun j hj => (k6.out j (by omega)).trans (hb4.block j hj)⟩
    obtain ⟨y0, y1, y2, y3, y4, -⟩ := row_cells n14
    obtain ⟨z0, z1, z2, z3, z4, -⟩ := row_cells hbx
    go_upto_region 14 with fail
    clear y0 y1 y2 y3 y4 z0 z1 z2 z3 z4 u0 u1 u2 u3 u4 d0 d1 d2 d3 d4 f0 f1 f2 f3 f4
    rw [hW6.out]
    clear hW6
    have t1 := hT4.one
    have hT6 : Tri w #[.int .i64 5, .int .i64 x, .string tx, .slice an ns.length cn, .slice (some ⟨g2, q2, none⟩) its.length ci] #[.int .i64 kx, .int .i64 xx, .string sx, .slice anx lnx cnx, .slice aix lix cix] W6 := ⟨⟨B6.os.trans (by have := hT4.below.os; rw [hb4.os] at this; exact this), B6.tape.trans (by have := hT4.below.tape; rw [hb4.tape] at this; exact this), B6.output.trans (by have := hT4.below.output; rw [hb4.output] at this; exact this), by rw [s6.out]; exact hT4.below.size, fun j hj => (k6.out j (by omega)).trans (hT4.below.block j hj)⟩, (k6.out _ (by omega)).trans hT4.one, (k6.out _ (by omega)).trans hT4.two, (k6.out _ (by omega)).trans hT4.three⟩
    have n6 := (k6.out g4 (by omega)).trans n14
    have hn6 := rows_keep hn14.out hi14.out k6.out
    have hse := with_fin (w0 := w0) (w := wc) (W := W6) (S := fun j => j < w0.heap.size ∨ (w.heap.size + 3 ≤ j ∧ j ≠ g3)) (k := 5) (ns := KN) (its := KI.set i R) (nm := .slice a4 KN.length c4) (gi := gi) (ci := cig) hBc (fun j hj => .inl hj) B6 (by rw [List.length_set]; exact r6.out) (seenR_row hn6) (fun W' hk2 hs2 ha => ItemsRep.set (hSy.out W' ⟨Nat.le_trans B6.size ha.1, fun p u hp hc => ha.2 p u (.inl hp) ((B6.cell (cell_lt hc)).trans hc)⟩) i him.out (ItemsRep.mono hk2 hs2 hIt.out))
    rw [List.length_set, hQ2.out] at hse
    replace hse := hid_e (seen_less (by omega) hse)
    clear hn6 r6 hSy hIt hn14 hi14 hb4 k6 t1 n14 hbx hT4
    obtain ⟨y0, y1, y2, y3, y4, -⟩ := row_cells n6
    obtain ⟨z0, z1, z2, z3, z4, zf⟩ := row_cells hT6.three
    have zf0 := zf 0; have zf1 := zf 1; have zf2 := zf 2; have zf3 := zf 3; have zf4 := zf 4
    clear zf
    go_wp2_with fail
    obtain ⟨hfe, hbe⟩ := rs_end hT6 h0.size hse.out (.int .i64 5) (.int .i64 0) (.string ⟨#[]⟩) (.slice a4 KN.length c4) (.slice (some ⟨gi, 0, none⟩) KI.length cig)
    have hr5 := put5_cells hT6.three (.int .i64 5) (.int .i64 0) (.string ⟨#[]⟩) (.slice a4 KN.length c4) (.slice (some ⟨gi, 0, none⟩) KI.length cig)
    have r0 := hr5 0; have r1 := hr5 1; have r2 := hr5 2; have r3 := hr5 3; have r4 := hr5 4
    clear hr5
    refine bodyPost_ret (v := .tuple #[.agg #[.int .i64 5, .int .i64 0, .string ⟨#[]⟩, .slice a4 KN.length c4, .slice (some ⟨gi, 0, none⟩) KI.length cig], .int .i64 0]) (by simp [results, Try.results20, go_sem, r0, r1, r2, r3, r4]) rfl ?_
    exact ⟨_, _, _, _, _, _, _, _, _, rfl, hfe, hbe⟩
end Go.Proofs.Ytmlbofbnklmedaa
