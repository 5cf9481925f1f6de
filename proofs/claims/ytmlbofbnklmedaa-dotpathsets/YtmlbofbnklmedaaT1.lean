import Derived.Test.YtmlbofbnklmedaaS6
import Derived.Test.YtmlbofbnklmedaaG2
import Derived.Test.YtmlbofbnklmedaaF2
/-! The document's anew. -/
namespace Go.Proofs.Ytmlbofbnklmedaa
open Go Go.RowKit

/-- append of all that lies somewhere, also of nothing. -/
theorem step_append_all {ops : Array Oper} {o : Oper} {a : Act} {K : Act → World → Prop} {Q : Exit → Act → World → Prop} {E : Prop} (w : World) (hgd : o.guard = none) (s x : Operand) (t : TypeId)
    (ho : o.op = .call { callee := .builtin .append, args := #[s, x], argTypes := #[t, t] }) (base : Nat) (e : TypeId) (i : TypeInfo) (z : Value) (size bytes : Nat) (ht : Try.prog.underlying t = some (.slice e)) (hi : Try.prog.info? e = some i) (hz : i.zero = some z)
    (hsize : i.size = size) (hby : i.bytes = bytes) (hzs : z.cells.size = size) (hsz : 0 < size) (g n cap : Nat) (xs : List Value) (hs : a.eval s = .slice (some ⟨g, 0, none⟩) n cap) (hown : w.ownsRow base e size (.slice (some ⟨g, 0, none⟩) n cap) n xs)
    (ax : Option Addr) (m c : Nat) (news : List Value) (hx : a.eval x = .slice ax m c) (hl : news.length = m * size) (hL : LiesAt w ax news) (h1 : ∀ u ∈ news, u.oneCell' = true) (h63 : n + m ≤ maxLen) (hbytes : (n + m) * bytes ≤ 140737488355328) (hbase : base ≤ w.heap.size)
    (h : ∀ g' cap' w', w'.ownsRow base e size (.slice (some ⟨g', 0, none⟩) (n + m) cap') (n + m) (xs ++ news) → w.grownBy w' (some g) → (g' = g ∨ g' = w.heap.size) → K (a.put o.dst (.slice (some ⟨g', 0, none⟩) (n + m) cap')) w') :
    if Region.wanted o (yielded ops a.tmps) = true then Oper.wp Try.prog o a w K Q else E := by
  by_cases h0 : m = 0
  · subst h0
    have e0 : news = [] := List.eq_nil_of_length_eq_zero (by omega)
    subst e0
    have hw : Region.wanted o (yielded ops a.tmps) = true := by simp [Region.wanted, hgd]
    rw [if_pos hw]
    have hcap : n ≤ cap := by
      rcases hown.2 with ⟨hv, _⟩ | ⟨g0, cap0, cur, hv, _, _, hc, _⟩
      · cases hv
      · cases hv; exact hc
    have hr := run_append_none (P := Try.prog) w t o.type e i ht hi g n cap hcap ax c
    unfold Oper.wp execOp
    simp only [ho, resolve, invoke, builtin, Sem.run_bind, Sem.run_pure, Result.andThen_ok, List.map_toArray, List.map_cons, List.map_nil, hs, hx, hr]
    have h2 : K (a.put o.dst (.slice (some ⟨g, 0, none⟩) n cap)) w := by simpa using h g cap w (by simpa using hown) (World.grownBy.refl w _) (.inl rfl)
    exact h2
  · rcases hL with e0 | ⟨b, oo, rfl, hc⟩
    · subst e0
      have : 0 < m * size := Nat.mul_pos (by omega) hsz
      simp only [List.length_nil] at hl
      omega
    · refine step_append_lies w hgd s x t ho base e i z size bytes ht hi hz hsize hby hzs hsz _ n xs hs hown _ m c news hx hl (fun j u hu => by rw [add_off]; exact hc j u hu) h1 (by omega) h63 hbytes hbase _ rfl ?_
      intro g' cap' w' r1 r2 r3 _
      exact h g' cap' w' r1 r2 (r3.elim (fun e => .inl (by simpa [Value.ownBlock] using e.symm)) .inr)
theorem owns_emptyV (w : World) (e : TypeId) (size : Nat) : (w.alloc (.cells #[] e)).ownsRow w.heap.size e size (.slice (some ⟨w.heap.size, 0, none⟩) 0 0) 0 [] :=
  ⟨by simp, .inr ⟨w.heap.size, 0, #[], rfl, Nat.le_refl _, heap_alloc_new w _, Nat.le_refl _, Nat.zero_le _, by simp, by simp⟩⟩
/-- Rows of unlike types lie apart. -/
theorem rows_apart {w : World} {lo lo' : Nat} {e e' : TypeId} {size size' : Nat} {v v' : Value} {n n' : Nat} {xs xs' : List Value} (h : w.ownsRow lo e size v n xs) (h' : w.ownsRow lo' e' size' v' n' xs') (hne : e ≠ e') : v.ownBlock = none ∨ v.ownBlock ≠ v'.ownBlock := by
  rcases h.2 with ⟨rfl, _⟩ | ⟨g, cap, cur, rfl, hg, hh, _⟩
  · exact .inl rfl
  · refine .inr (fun eq => ?_)
    rcases h'.2 with ⟨rfl, _⟩ | ⟨g', cap', cur', rfl, hg', hh', _⟩
    · simp [Value.ownBlock] at eq
    · simp only [Value.ownBlock, Option.some.injEq] at eq
      subst eq
      rw [hh] at hh'
      simp only [Option.some.injEq, Obj.cells.injEq] at hh'
      exact hne hh'.2.1
/-- Two boxes: what was handed in, and what will be answered. -/
structure An (w : World) (b : Array Value) (W : World) : Prop where
  below : Below w.heap.size w W
  one : W.heap[w.heap.size]? = some (.cells b 25 (0, 0))
  two : W.heap[w.heap.size + 1]? = some (.cells #[.int .i64 0, .int .i64 0, .string ⟨#[]⟩, .slice none 0 0, .slice none 0 0] 25 (0, 0))
theorem An.lt {w W : World} {b : Array Value} (h : An w b W) : w.heap.size + 2 ≤ W.heap.size := (Array.getElem?_eq_some_iff.1 h.two).1
theorem An.keep {w W W' : World} {b : Array Value} (h : An w b W) (hb : Below W.heap.size W W') : An w b W' :=
  ⟨h.below.trans (hb.mono h.below.size), (hb.block _ (Array.getElem?_eq_some_iff.1 h.one).1).trans h.one, (hb.block _ (Array.getElem?_eq_some_iff.1 h.two).1).trans h.two⟩
theorem An.alloc {w W : World} {b : Array Value} (h : An w b W) (o : Obj) : An w b (W.alloc o) := h.keep ((Below.refl _ _).alloc (Nat.le_refl _) _)
theorem An.drew {w W : World} {b : Array Value} (h : An w b W) : An w b W.drew := h.keep ⟨rfl, rfl, rfl, Nat.le_refl _, fun _ _ => rfl⟩
theorem An.grown {w W W' : World} {b : Array Value} {g : Nat} (h : An w b W) (hg : W.grownBy W' (some g)) (hgt : w.heap.size + 2 ≤ g) : An w b W' :=
  ⟨h.below.trans (grown_below hg h.below.size (fun j hj => by cases hj; omega)), (hg.block _ (Array.getElem?_eq_some_iff.1 h.one).1 (fun e => by cases e; omega)).trans h.one, (hg.block _ (Array.getElem?_eq_some_iff.1 h.two).1 (fun e => by cases e; omega)).trans h.two⟩
theorem an_new (w : World) (b : Array Value) : An w b ((w.alloc (.cells b 25)).alloc (.cells #[.int .i64 0, .int .i64 0, .string ⟨#[]⟩, .slice none 0 0, .slice none 0 0] 25)) :=
  ⟨((Below.refl _ w).alloc (Nat.le_refl _) _).alloc (by simp) _, new1 w _ _, new2 w _ _⟩
theorem lies_keep {w W : World} {a : Option Addr} {cs : List Value} (h : LiesAt w a cs) (hb : Below w.heap.size w W) : LiesAt W a cs := h.keep hb
/-- What anew answers: lists of its own. -/
def RAnew (w : World) (k : Int) (ns : List ByteArray) (m : Nat) (xs : List Value) (e : Ending) (w' : World) : Prop :=
  ∃ (nv : Value) (gi ci : Nat), e = .returned (.agg #[.int .i64 k, .int .i64 0, .string ⟨#[]⟩, nv, .slice (some ⟨gi, 0, none⟩) m ci]) ∧ Below w.heap.size w w' ∧
    w'.ownsRow w.heap.size 9 1 nv ns.length (strs ns) ∧ w'.ownsRow w.heap.size 25 5 (.slice (some ⟨gi, 0, none⟩) m ci) m xs
theorem an_end {w W : World} {b : Array Value} {k : Int} {ns : List ByteArray} {m : Nat} {xs : List Value} {nv : Value} {gi ci : Nat} (h : An w b W) (hN : W.ownsRow (w.heap.size + 2) 9 1 nv ns.length (strs ns)) (hI : W.ownsRow (w.heap.size + 2) 25 5 (.slice (some ⟨gi, 0, none⟩) m ci) m xs) (a0 a1 a2 a3 a4 : Value) :
    RAnew w k ns m xs (.returned (.agg #[.int .i64 k, .int .i64 0, .string ⟨#[]⟩, nv, .slice (some ⟨gi, 0, none⟩) m ci])) (put5 W (w.heap.size + 1) a0 a1 a2 a3 a4) :=
  ⟨nv, gi, ci, rfl, h.below.trans (put5_below (by omega) _ _ _ _ _), ownsRow_lo (ownsRow_keep hN (fun j hj => put5_far _ _ _ _ _ (by have := (ownsRow_ge hN hj).1; omega))) (by omega), ownsRow_lo (ownsRow_keep hI (fun j hj => put5_far _ _ _ _ _ (by have := (ownsRow_ge hI hj).1; omega))) (by omega)⟩
set_option maxHeartbeats 8000000 in
set_option maxRecDepth 100000 in
theorem ranew6 (x : Int) (tx : ByteArray) (an : Option Addr) (ln cn : Nat) (ai : Option Addr) (li ci n : Nat) (ns : List ByteArray) (xs : List Value) (hm : min ln li = n) (hcn : ln ≤ cn) (hci : li ≤ ci) (hns : ns.length = n) (hxs : xs.length = n * 5) (hb : (n + 1) * 80 ≤ 140737488355328) (hx1 : Hid (∀ v ∈ xs, v.oneCell' = true)) (w : World) (hN : Hid (LiesAt w an (strs ns))) (hI : Hid (LiesAt w ai xs)) :
    Calls Try.prog 37 #[.agg #[.int .i64 6, .int .i64 x, .string tx, .slice an ln cn, .slice ai li ci]] w (RAnew w 6 ns n xs) := by
  obtain ⟨i9, hi9, hz0, hz1, hz2⟩ := info_parts A9
  obtain ⟨iV, hiV, hv0, hv1, hv2⟩ := info_parts AV
  have h1 : n ≤ cn := by omega
  have h2 : n ≤ ci := by omega
  have hbs : Hid (0 + n ≤ maxLen ∧ (0 + n) * 16 ≤ 140737488355328) := by rw [Hid]; unfold maxLen; omega
  have hbv : Hid (0 + n ≤ maxLen ∧ (0 + n) * 80 ≤ 140737488355328) := by rw [Hid]; unfold maxLen; omega
  have hsl : (strs ns).length = n * 1 := by rw [strs_length]; omega
  have hs1 := hid_e (strs1 ns)
  have hA := an_new w #[.int .i64 6, .int .i64 x, .string tx, .slice an ln cn, .slice ai li ci]
  go_enter Try.func37, Try.ntmps37
  go_upto_region 1 with fail
  generalize (w.alloc (.cells #[.int .i64 6, .int .i64 x, .string tx, .slice an ln cn, .slice ai li ci] 25)).alloc (.cells #[.int .i64 0, .int .i64 0, .string ⟨#[]⟩, .slice none 0 0, .slice none 0 0] 25) = X0 at hA ⊢
  obtain ⟨y0, y1, y2, y3, y4, -⟩ := row_cells hA.one
  go_wp2_with fail
  clear y0 y1 y2 y3 y4
  go_fit (rmem_any 6 x tx an ln cn ai li ci X0)
  rintro e X1 ⟨rfl, hs⟩
  rw [hm]
  replace hA := hA.keep hs
  clear hs
  go_upto_region 3 with fail
  replace hA := hA.drew
  generalize hX : X1.drew = X at hA
  refine wp_region_noPanic ?_
  refine Until.wp_region_U (fun w' => w'.heap[w.heap.size]? = some (.cells #[.int .i64 6, .int .i64 x, .string tx, .slice an ln cn, .slice ai li ci] 25 (0, 0))) (fun _ => True) 15 (by kernel_rfl) ?_
  rw [hX]
  clear hX
  refine Until.wpU_pure (i := 0) (oi := { dst := some 9, op := Op.fieldAddr 25 (Operand.tmp 1) 0, type := 0, pos := "ref.go:143", after := #[], guard := none }) (v := .pointer (some ⟨w.heap.size, 0, none⟩)) rfl (by kernel_rfl) (by kernel_rfl) (by kernel_rfl) (by kernel_rfl) (by kernel_rfl) (fun _ _ _ h => h) hA.one (fun _ => trivial) (by rfl) (by intro w'; go_simp) ?_
  try simp only [Act.put, List.setIfInBounds_toArray, List.set_cons_zero, List.set_cons_succ]
  refine Until.wpU_load0 (i := 1) (oi := { dst := some 10, op := Op.load 3 (Operand.tmp 9), type := 3, pos := "ref.go:143", after := #[{ on := 0, ground := Ground.data }], guard := none }) (v := .int .i64 6) rfl (by kernel_rfl) (by kernel_rfl) (by kernel_rfl) (by kernel_rfl) (by kernel_rfl) (fun _ _ _ h => h) hA.one (fun _ => trivial) (by rfl) (by intro w' hw'; obtain ⟨t0, t1, t2, t3, t4, -⟩ := row_cells hw'; clear hw'; go_simp) ?_
  try simp only [Act.put, List.setIfInBounds_toArray, List.set_cons_zero, List.set_cons_succ]
  refine Until.wpU_pure (i := 3) (oi := { dst := some 12, op := Op.fieldAddr 25 (Operand.tmp 1) 3, type := 0, pos := "ref.go:143", after := #[], guard := none }) (v := .pointer (some ⟨w.heap.size, 3, none⟩)) rfl (by kernel_rfl) (by kernel_rfl) (by kernel_rfl) (by kernel_rfl) (by kernel_rfl) (fun _ _ _ h => h) hA.one (fun _ => trivial) (by rfl) (by intro w'; go_simp) ?_
  try simp only [Act.put, List.setIfInBounds_toArray, List.set_cons_zero, List.set_cons_succ]
  refine Until.wpU_load0 (i := 4) (oi := { dst := some 13, op := Op.load 22 (Operand.tmp 12), type := 22, pos := "ref.go:143", after := #[{ on := 3, ground := Ground.data }], guard := none }) (v := .slice an ln cn) rfl (by kernel_rfl) (by kernel_rfl) (by kernel_rfl) (by kernel_rfl) (by kernel_rfl) (fun _ _ _ h => h) hA.one (fun _ => trivial) (by rfl) (by intro w' hw'; obtain ⟨t0, t1, t2, t3, t4, -⟩ := row_cells hw'; clear hw'; go_simp) ?_
  try simp only [Act.put, List.setIfInBounds_toArray, List.set_cons_zero, List.set_cons_succ]
  refine Until.wpU_pure (i := 5) (oi := { dst := some 14, op := Op.move (Operand.tmp 3), type := 3, pos := "ref.go:143", after := #[], guard := none }) (v := .int .i64 n) rfl (by kernel_rfl) (by kernel_rfl) (by kernel_rfl) (by kernel_rfl) (by kernel_rfl) (fun _ _ _ h => h) hA.one (fun _ => trivial) (by rfl) (by intro w'; go_simp) ?_
  try simp only [Act.put, List.setIfInBounds_toArray, List.set_cons_zero, List.set_cons_succ]
  refine Until.wpU_pure (i := 6) (oi := { dst := some 15, op := Op.slice 22 (Operand.tmp 13) none (some (Operand.tmp 14)) none, type := 22, pos := "ref.go:143", after := #[{ on := 4, ground := Ground.data }, { on := 5, ground := Ground.data }], guard := none }) (v := .slice an n cn) rfl (by kernel_rfl) (by kernel_rfl) (by kernel_rfl) (by kernel_rfl) (by kernel_rfl) (fun _ _ _ h => h) hA.one (fun _ => trivial) (by rfl) (by intro w'; go_simp) ?_
  try simp only [Act.put, List.setIfInBounds_toArray, List.set_cons_zero, List.set_cons_succ]
  refine Until.wpU_pure (i := 9) (oi := { dst := some 18, op := Op.fieldAddr 25 (Operand.tmp 1) 4, type := 0, pos := "ref.go:143", after := #[], guard := none }) (v := .pointer (some ⟨w.heap.size, 4, none⟩)) rfl (by kernel_rfl) (by kernel_rfl) (by kernel_rfl) (by kernel_rfl) (by kernel_rfl) (fun _ _ _ h => h) hA.one (fun _ => trivial) (by rfl) (by intro w'; go_simp) ?_
  try simp only [Act.put, List.setIfInBounds_toArray, List.set_cons_zero, List.set_cons_succ]
  refine Until.wpU_load0 (i := 10) (oi := { dst := some 19, op := Op.load 23 (Operand.tmp 18), type := 23, pos := "ref.go:143", after := #[{ on := 9, ground := Ground.data }], guard := none }) (v := .slice ai li ci) rfl (by kernel_rfl) (by kernel_rfl) (by kernel_rfl) (by kernel_rfl) (by kernel_rfl) (fun _ _ _ h => h) hA.one (fun _ => trivial) (by rfl) (by intro w' hw'; obtain ⟨t0, t1, t2, t3, t4, -⟩ := row_cells hw'; clear hw'; go_simp) ?_
  try simp only [Act.put, List.setIfInBounds_toArray, List.set_cons_zero, List.set_cons_succ]
  refine Until.wpU_pure (i := 11) (oi := { dst := some 20, op := Op.move (Operand.tmp 3), type := 3, pos := "ref.go:143", after := #[], guard := none }) (v := .int .i64 n) rfl (by kernel_rfl) (by kernel_rfl) (by kernel_rfl) (by kernel_rfl) (by kernel_rfl) (fun _ _ _ h => h) hA.one (fun _ => trivial) (by rfl) (by intro w'; go_simp) ?_
  try simp only [Act.put, List.setIfInBounds_toArray, List.set_cons_zero, List.set_cons_succ]
  refine Until.wpU_pure (i := 12) (oi := { dst := some 21, op := Op.slice 23 (Operand.tmp 19) none (some (Operand.tmp 20)) none, type := 23, pos := "ref.go:143", after := #[{ on := 10, ground := Ground.data }, { on := 11, ground := Ground.data }], guard := none }) (v := .slice ai n ci) rfl (by kernel_rfl) (by kernel_rfl) (by kernel_rfl) (by kernel_rfl) (by kernel_rfl) (fun _ _ _ h => h) hA.one (fun _ => trivial) (by rfl) (by intro w'; go_simp) ?_
  try simp only [Act.put, List.setIfInBounds_toArray, List.set_cons_zero, List.set_cons_succ]
  refine Until.wpU_ready (rs := [2, 8]) (by kernel_rfl) (by simp) ?_
  refine (Until.AllU.cons (o := { dst := some 11, op := Op.buildSlice 22 0 #[], type := 22, pos := "ref.go:143", after := #[], guard := none }) rfl (fun K hK => ?_) (Until.AllU.cons (o := { dst := some 17, op := Op.buildSlice 23 0 #[], type := 23, pos := "ref.go:143", after := #[], guard := none }) rfl (fun K hK => ?_) Until.AllU.nil))
  · skip
    go_simp
    have hs := hid_e (ownsRow_lo (owns_emptyV X 9 1) hA.lt)
    have hgs : w.heap.size + 2 ≤ X.heap.size := hA.lt
    replace hA := hA.alloc (.cells #[] 9)
    refine hK.out _ _ hA.one (fun _ => trivial) ?_
    clear hK K
    try simp only [Act.put, List.setIfInBounds_toArray, List.set_cons_zero, List.set_cons_succ]
    obtain ⟨gs, hq⟩ : ∃ g, X.heap.size = g := ⟨_, rfl⟩
    rw [hq] at hs hgs
    rw [hq]
    clear hq
    generalize X.alloc (.cells #[] 9) = X' at hA hs  ⊢
    refine Until.wpU_ready (rs := [7, 8]) (by kernel_rfl) (by simp) ?_
    refine (Until.AllU.cons (o := { dst := some 16, op := Op.call { callee := Callee.builtin Builtin.append, args := #[Operand.tmp 11, Operand.tmp 15], argTypes := #[22, 22] }, type := 22, pos := "ref.go:143", after := #[{ on := 2, ground := Ground.data }, { on := 6, ground := Ground.data }], guard := none }) rfl (fun K hK => ?_) (Until.AllU.cons (o := { dst := some 17, op := Op.buildSlice 23 0 #[], type := 23, pos := "ref.go:143", after := #[], guard := none }) rfl (fun K hK => ?_) Until.AllU.nil))
    · skip
      refine step_append_all X' (by rfl) _ _ 22 (by rfl) (w.heap.size + 2) 9 i9 _ 1 16 Try.underlying22 hi9 hz0 hz1 hz2 (by rfl) (by decide) gs 0 0 [] (by rfl) hs.out an n cn (strs ns) (by rfl) hsl (lies_keep hN.out hA.below) hs1.out hbs.out.1 hbs.out.2 hA.lt ?_
      intro gs1 caps Y1 hoo hgr hat
      have hgs' : w.heap.size + 2 ≤ gs1 := by rcases hat with e | e; rw [e]; exact hgs; rw [e]; exact hA.lt
      replace hA := hA.grown hgr hgs
      replace hs := hid_e hoo
      replace hgs := hgs'
      clear hgr hat hoo hgs'
      refine hK.out _ _ hA.one (fun _ => trivial) ?_
      clear hK K
      try simp only [Act.put, List.setIfInBounds_toArray, List.set_cons_zero, List.set_cons_succ]
      refine Until.wpU_ready (rs := [8]) (by kernel_rfl) (by simp) ?_
      refine (Until.AllU.cons (o := { dst := some 17, op := Op.buildSlice 23 0 #[], type := 23, pos := "ref.go:143", after := #[], guard := none }) rfl (fun K hK => ?_) Until.AllU.nil)
      go_simp
      have hv := hid_e (ownsRow_lo (owns_emptyV Y1 25 5) hA.lt)
      have hgv : w.heap.size + 2 ≤ Y1.heap.size := hA.lt
      replace hs := hid_e (hs.out.alloc (.cells #[] 25))
      replace hA := hA.alloc (.cells #[] 25)
      refine hK.out _ _ hA.one (fun _ => trivial) ?_
      clear hK K
      try simp only [Act.put, List.setIfInBounds_toArray, List.set_cons_zero, List.set_cons_succ]
      obtain ⟨gv, hq⟩ : ∃ g, Y1.heap.size = g := ⟨_, rfl⟩
      rw [hq] at hv hgv
      rw [hq]
      clear hq
      generalize Y1.alloc (.cells #[] 25) = Y1' at hA hv hs ⊢
      refine Until.wpU_ready (rs := [13]) (by kernel_rfl) (by simp) ?_
      refine (Until.AllU.cons (o := { dst := some 22, op := Op.call { callee := Callee.builtin Builtin.append, args := #[Operand.tmp 17, Operand.tmp 21], argTypes := #[23, 23] }, type := 23, pos := "ref.go:143", after := #[{ on := 8, ground := Ground.data }, { on := 12, ground := Ground.data }, { on := 7, ground := Ground.chain }], guard := none }) rfl (fun K hK => ?_) Until.AllU.nil)
      refine step_append_all Y1' (by rfl) _ _ 23 (by rfl) (w.heap.size + 2) 25 iV _ 5 80 Try.underlying23 hiV hv0 hv1 hv2 (by rfl) (by decide) gv 0 0 [] (by rfl) hv.out ai n ci xs (by rfl) hxs (lies_keep hI.out hA.below) hx1.out hbv.out.1 hbv.out.2 hA.lt ?_
      intro gv1 capv Y2 hoo hgr hat
      replace hs := hid_e (hs.out.kept hgr (by rcases rows_apart hs.out hv.out (by decide) with h | h; exact .inl h; exact .inr h))
      have hgv' : w.heap.size + 2 ≤ gv1 := by rcases hat with e | e; rw [e]; exact hgv; rw [e]; exact hA.lt
      replace hA := hA.grown hgr hgv
      replace hv := hid_e hoo
      replace hgv := hgv'
      clear hgr hat hoo hgv'
      refine hK.out _ _ hA.one (fun _ => trivial) ?_
      clear hK K
      try simp only [Act.put, List.setIfInBounds_toArray, List.set_cons_zero, List.set_cons_succ]
      simp only [Nat.zero_add, List.nil_append] at hs hv
      simp only [Nat.zero_add]
      refine Until.wpU_pure (i := 14) (oi := { dst := some 23, op := Op.build 25 #[(0, Operand.tmp 10), (3, Operand.tmp 16), (4, Operand.tmp 22)], type := 25, pos := "ref.go:143", after := #[{ on := 1, ground := Ground.data }, { on := 7, ground := Ground.data }, { on := 13, ground := Ground.data }], guard := none }) (v := .agg #[.int .i64 6, .int .i64 0, .string ⟨#[]⟩, .slice (some ⟨gs1, 0, none⟩) n caps, .slice (some ⟨gv1, 0, none⟩) n capv]) rfl (by kernel_rfl) (by kernel_rfl) (by kernel_rfl) (by kernel_rfl) (by kernel_rfl) (fun _ _ _ h => h) hA.one (fun _ => trivial) (by rfl) (by intro w'; go_simp) ?_
      try simp only [Act.put, List.setIfInBounds_toArray, List.set_cons_zero, List.set_cons_succ]
      obtain ⟨z0, z1, z2, z3, z4, zf⟩ := row_cells hA.two
      have zf0 := zf 0; have zf1 := zf 1; have zf2 := zf 2; have zf3 := zf 3; have zf4 := zf 4
      clear zf
      refine Until.wpU_ready (rs := [15]) (by kernel_rfl) (by simp) ?_
      refine (Until.AllU.cons (o := { dst := none, op := Op.store 25 (Operand.tmp 2) (Operand.tmp 23), type := 0, pos := "ref.go:143", after := #[{ on := 14, ground := Ground.data }, { on := 13, ground := Ground.chain }, { on := 0, ground := Ground.phase }, { on := 1, ground := Ground.phase }, { on := 2, ground := Ground.phase }, { on := 3, ground := Ground.phase }, { on := 4, ground := Ground.phase }, { on := 5, ground := Ground.phase }, { on := 6, ground := Ground.phase }, { on := 7, ground := Ground.phase }, { on := 8, ground := Ground.phase }, { on := 9, ground := Ground.phase }, { on := 10, ground := Ground.phase }, { on := 11, ground := Ground.phase }, { on := 12, ground := Ground.phase }, { on := 13, ground := Ground.phase }, { on := 14, ground := Ground.phase }], guard := none }) rfl (fun K hK => ?_) Until.AllU.nil)
      go_simp
      have hp := (put5_far (w := Y2) (g := w.heap.size + 1) (.int .i64 6) (.int .i64 0) (.string ⟨#[]⟩) (.slice (some ⟨gs1, 0, none⟩) n caps) (.slice (some ⟨gv1, 0, none⟩) n capv) (show w.heap.size ≠ w.heap.size + 1 by omega)).trans hA.one
      refine hK.out _ _ hp (fun _ => trivial) ?_
      clear hK K
      try simp only [Act.put, List.setIfInBounds_toArray, List.set_cons_zero, List.set_cons_succ]
      clear z0 z1 z2 z3 z4 zf0 zf1 zf2 zf3 zf4
      refine Until.wpU_done (by kernel_rfl) ?_ _
      refine NoPanic.normal ?_
      go_wp2_with fail
      have hr5 := put5_cells hA.two (.int .i64 6) (.int .i64 0) (.string ⟨#[]⟩) (.slice (some ⟨gs1, 0, none⟩) n caps) (.slice (some ⟨gv1, 0, none⟩) n capv)
      have r0 := hr5 0; have r1 := hr5 1; have r2 := hr5 2; have r3 := hr5 3; have r4 := hr5 4
      clear hr5
      refine bodyPost_ret (v := .agg #[.int .i64 6, .int .i64 0, .string ⟨#[]⟩, .slice (some ⟨gs1, 0, none⟩) n caps, .slice (some ⟨gv1, 0, none⟩) n capv]) (by simp [results, Try.results37, go_sem, r0, r1, r2, r3, r4]) rfl ?_
      have hs3 := hs.out
      rw [← hns] at hs3 ⊢
      rw [hns] at hs3 ⊢
      exact an_end hA (by rw [hns]; exact hs3) hv.out _ _ _ _ _
    · skip
      go_simp
      have hv := hid_e (ownsRow_lo (owns_emptyV X' 25 5) hA.lt)
      have hgv : w.heap.size + 2 ≤ X'.heap.size := hA.lt
      replace hs := hid_e (hs.out.alloc (.cells #[] 25))
      replace hA := hA.alloc (.cells #[] 25)
      refine hK.out _ _ hA.one (fun _ => trivial) ?_
      clear hK K
      try simp only [Act.put, List.setIfInBounds_toArray, List.set_cons_zero, List.set_cons_succ]
      obtain ⟨gv, hq⟩ : ∃ g, X'.heap.size = g := ⟨_, rfl⟩
      rw [hq] at hv hgv
      rw [hq]
      clear hq
      generalize X'.alloc (.cells #[] 25) = X'' at hA hv hs ⊢
      refine Until.wpU_ready (rs := [7]) (by kernel_rfl) (by simp) ?_
      refine (Until.AllU.cons (o := { dst := some 16, op := Op.call { callee := Callee.builtin Builtin.append, args := #[Operand.tmp 11, Operand.tmp 15], argTypes := #[22, 22] }, type := 22, pos := "ref.go:143", after := #[{ on := 2, ground := Ground.data }, { on := 6, ground := Ground.data }], guard := none }) rfl (fun K hK => ?_) Until.AllU.nil)
      refine step_append_all X'' (by rfl) _ _ 22 (by rfl) (w.heap.size + 2) 9 i9 _ 1 16 Try.underlying22 hi9 hz0 hz1 hz2 (by rfl) (by decide) gs 0 0 [] (by rfl) hs.out an n cn (strs ns) (by rfl) hsl (lies_keep hN.out hA.below) hs1.out hbs.out.1 hbs.out.2 hA.lt ?_
      intro gs1 caps Y1 hoo hgr hat
      replace hv := hid_e (hv.out.kept hgr (by rcases rows_apart hv.out hs.out (by decide) with h | h; exact .inl h; exact .inr h))
      have hgs' : w.heap.size + 2 ≤ gs1 := by rcases hat with e | e; rw [e]; exact hgs; rw [e]; exact hA.lt
      replace hA := hA.grown hgr hgs
      replace hs := hid_e hoo
      replace hgs := hgs'
      clear hgr hat hoo hgs'
      refine hK.out _ _ hA.one (fun _ => trivial) ?_
      clear hK K
      try simp only [Act.put, List.setIfInBounds_toArray, List.set_cons_zero, List.set_cons_succ]
      refine Until.wpU_ready (rs := [13]) (by kernel_rfl) (by simp) ?_
      refine (Until.AllU.cons (o := { dst := some 22, op := Op.call { callee := Callee.builtin Builtin.append, args := #[Operand.tmp 17, Operand.tmp 21], argTypes := #[23, 23] }, type := 23, pos := "ref.go:143", after := #[{ on := 8, ground := Ground.data }, { on := 12, ground := Ground.data }, { on := 7, ground := Ground.chain }], guard := none }) rfl (fun K hK => ?_) Until.AllU.nil)
      refine step_append_all Y1 (by rfl) _ _ 23 (by rfl) (w.heap.size + 2) 25 iV _ 5 80 Try.underlying23 hiV hv0 hv1 hv2 (by rfl) (by decide) gv 0 0 [] (by rfl) hv.out ai n ci xs (by rfl) hxs (lies_keep hI.out hA.below) hx1.out hbv.out.1 hbv.out.2 hA.lt ?_
      intro gv1 capv Y2 hoo hgr hat
      replace hs := hid_e (hs.out.kept hgr (by rcases rows_apart hs.out hv.out (by decide) with h | h; exact .inl h; exact .inr h))
      have hgv' : w.heap.size + 2 ≤ gv1 := by rcases hat with e | e; rw [e]; exact hgv; rw [e]; exact hA.lt
      replace hA := hA.grown hgr hgv
      replace hv := hid_e hoo
      replace hgv := hgv'
      clear hgr hat hoo hgv'
      refine hK.out _ _ hA.one (fun _ => trivial) ?_
      clear hK K
      try simp only [Act.put, List.setIfInBounds_toArray, List.set_cons_zero, List.set_cons_succ]
      simp only [Nat.zero_add, List.nil_append] at hs hv
      simp only [Nat.zero_add]
      refine Until.wpU_pure (i := 14) (oi := { dst := some 23, op := Op.build 25 #[(0, Operand.tmp 10), (3, Operand.tmp 16), (4, Operand.tmp 22)], type := 25, pos := "ref.go:143", after := #[{ on := 1, ground := Ground.data }, { on := 7, ground := Ground.data }, { on := 13, ground := Ground.data }], guard := none }) (v := .agg #[.int .i64 6, .int .i64 0, .string ⟨#[]⟩, .slice (some ⟨gs1, 0, none⟩) n caps, .slice (some ⟨gv1, 0, none⟩) n capv]) rfl (by kernel_rfl) (by kernel_rfl) (by kernel_rfl) (by kernel_rfl) (by kernel_rfl) (fun _ _ _ h => h) hA.one (fun _ => trivial) (by rfl) (by intro w'; go_simp) ?_
      try simp only [Act.put, List.setIfInBounds_toArray, List.set_cons_zero, List.set_cons_succ]
      obtain ⟨z0, z1, z2, z3, z4, zf⟩ := row_cells hA.two
      have zf0 := zf 0; have zf1 := zf 1; have zf2 := zf 2; have zf3 := zf 3; have zf4 := zf 4
      clear zf
      refine Until.wpU_ready (rs := [15]) (by kernel_rfl) (by simp) ?_
      refine (Until.AllU.cons (o := { dst := none, op := Op.store 25 (Operand.tmp 2) (Operand.tmp 23), type := 0, pos := "ref.go:143", after := #[{ on := 14, ground := Ground.data }, { on := 13, ground := Ground.chain }, { on := 0, ground := Ground.phase }, { on := 1, ground := Ground.phase }, { on := 2, ground := Ground.phase }, { on := 3, ground := Ground.phase }, { on := 4, ground := Ground.phase }, { on := 5, ground := Ground.phase }, { on := 6, ground := Ground.phase }, { on := 7, ground := Ground.phase }, { on := 8, ground := Ground.phase }, { on := 9, ground := Ground.phase }, { on := 10, ground := Ground.phase }, { on := 11, ground := Ground.phase }, { on := 12, ground := Ground.phase }, { on := 13, ground := Ground.phase }, { on := 14, ground := Ground.phase }], guard := none }) rfl (fun K hK => ?_) Until.AllU.nil)
      go_simp
      have hp := (put5_far (w := Y2) (g := w.heap.size + 1) (.int .i64 6) (.int .i64 0) (.string ⟨#[]⟩) (.slice (some ⟨gs1, 0, none⟩) n caps) (.slice (some ⟨gv1, 0, none⟩) n capv) (show w.heap.size ≠ w.heap.size + 1 by omega)).trans hA.one
      refine hK.out _ _ hp (fun _ => trivial) ?_
      clear hK K
      try simp only [Act.put, List.setIfInBounds_toArray, List.set_cons_zero, List.set_cons_succ]
      clear z0 z1 z2 z3 z4 zf0 zf1 zf2 zf3 zf4
      refine Until.wpU_done (by kernel_rfl) ?_ _
      refine NoPanic.normal ?_
      go_wp2_with fail
      have hr5 := put5_cells hA.two (.int .i64 6) (.int .i64 0) (.string ⟨#[]⟩) (.slice (some ⟨gs1, 0, none⟩) n caps) (.slice (some ⟨gv1, 0, none⟩) n capv)
      have r0 := hr5 0; have r1 := hr5 1; have r2 := hr5 2; have r3 := hr5 3; have r4 := hr5 4
      clear hr5
      refine bodyPost_ret (v := .agg #[.int .i64 6, .int .i64 0, .string ⟨#[]⟩, .slice (some ⟨gs1, 0, none⟩) n caps, .slice (some ⟨gv1, 0, none⟩) n capv]) (by simp [results, Try.results37, go_sem, r0, r1, r2, r3, r4]) rfl ?_
      have hs3 := hs.out
      rw [← hns] at hs3 ⊢
      rw [hns] at hs3 ⊢
      exact an_end hA (by rw [hns]; exact hs3) hv.out _ _ _ _ _
  · skip
    go_simp
    have hv := hid_e (ownsRow_lo (owns_emptyV X 25 5) hA.lt)
    have hgv : w.heap.size + 2 ≤ X.heap.size := hA.lt
    replace hA := hA.alloc (.cells #[] 25)
    refine hK.out _ _ hA.one (fun _ => trivial) ?_
    clear hK K
    try simp only [Act.put, List.setIfInBounds_toArray, List.set_cons_zero, List.set_cons_succ]
    obtain ⟨gv, hq⟩ : ∃ g, X.heap.size = g := ⟨_, rfl⟩
    rw [hq] at hv hgv
    rw [hq]
    clear hq
    generalize X.alloc (.cells #[] 25) = X' at hA hv  ⊢
    refine Until.wpU_ready (rs := [2]) (by kernel_rfl) (by simp) ?_
    refine (Until.AllU.cons (o := { dst := some 11, op := Op.buildSlice 22 0 #[], type := 22, pos := "ref.go:143", after := #[], guard := none }) rfl (fun K hK => ?_) Until.AllU.nil)
    go_simp
    have hs := hid_e (ownsRow_lo (owns_emptyV X' 9 1) hA.lt)
    have hgs : w.heap.size + 2 ≤ X'.heap.size := hA.lt
    replace hv := hid_e (hv.out.alloc (.cells #[] 9))
    replace hA := hA.alloc (.cells #[] 9)
    refine hK.out _ _ hA.one (fun _ => trivial) ?_
    clear hK K
    try simp only [Act.put, List.setIfInBounds_toArray, List.set_cons_zero, List.set_cons_succ]
    obtain ⟨gs, hq⟩ : ∃ g, X'.heap.size = g := ⟨_, rfl⟩
    rw [hq] at hs hgs
    rw [hq]
    clear hq
    generalize X'.alloc (.cells #[] 9) = X'' at hA hs hv ⊢
    refine Until.wpU_ready (rs := [7]) (by kernel_rfl) (by simp) ?_
    refine (Until.AllU.cons (o := { dst := some 16, op := Op.call { callee := Callee.builtin Builtin.append, args := #[Operand.tmp 11, Operand.tmp 15], argTypes := #[22, 22] }, type := 22, pos := "ref.go:143", after := #[{ on := 2, ground := Ground.data }, { on := 6, ground := Ground.data }], guard := none }) rfl (fun K hK => ?_) Until.AllU.nil)
    refine step_append_all X'' (by rfl) _ _ 22 (by rfl) (w.heap.size + 2) 9 i9 _ 1 16 Try.underlying22 hi9 hz0 hz1 hz2 (by rfl) (by decide) gs 0 0 [] (by rfl) hs.out an n cn (strs ns) (by rfl) hsl (lies_keep hN.out hA.below) hs1.out hbs.out.1 hbs.out.2 hA.lt ?_
    intro gs1 caps Y1 hoo hgr hat
    replace hv := hid_e (hv.out.kept hgr (by rcases rows_apart hv.out hs.out (by decide) with h | h; exact .inl h; exact .inr h))
    have hgs' : w.heap.size + 2 ≤ gs1 := by rcases hat with e | e; rw [e]; exact hgs; rw [e]; exact hA.lt
    replace hA := hA.grown hgr hgs
    replace hs := hid_e hoo
    replace hgs := hgs'
    clear hgr hat hoo hgs'
    refine hK.out _ _ hA.one (fun _ => trivial) ?_
    clear hK K
    try simp only [Act.put, List.setIfInBounds_toArray, List.set_cons_zero, List.set_cons_succ]
    refine Until.wpU_ready (rs := [13]) (by kernel_rfl) (by simp) ?_
    refine (Until.AllU.cons (o := { dst := some 22, op := Op.call { callee := Callee.builtin Builtin.append, args := #[Operand.tmp 17, Operand.tmp 21], argTypes := #[23, 23] }, type := 23, pos := "ref.go:143", after := #[{ on := 8, ground := Ground.data }, { on := 12, ground := Ground.data }, { on := 7, ground := Ground.chain }], guard := none }) rfl (fun K hK => ?_) Until.AllU.nil)
    refine step_append_all Y1 (by rfl) _ _ 23 (by rfl) (w.heap.size + 2) 25 iV _ 5 80 Try.underlying23 hiV hv0 hv1 hv2 (by rfl) (by decide) gv 0 0 [] (by rfl) hv.out ai n ci xs (by rfl) hxs (lies_keep hI.out hA.below) hx1.out hbv.out.1 hbv.out.2 hA.lt ?_
    intro gv1 capv Y2 hoo hgr hat
    replace hs := hid_e (hs.out.kept hgr (by rcases rows_apart hs.out hv.out (by decide) with h | h; exact .inl h; exact .inr h))
    have hgv' : w.heap.size + 2 ≤ gv1 := by rcases hat with e | e; rw [e]; exact hgv; rw [e]; exact hA.lt
    replace hA := hA.grown hgr hgv
    replace hv := hid_e hoo
    replace hgv := hgv'
    clear hgr hat hoo hgv'
    refine hK.out _ _ hA.one (fun _ => trivial) ?_
    clear hK K
    try simp only [Act.put, List.setIfInBounds_toArray, List.set_cons_zero, List.set_cons_succ]
    simp only [Nat.zero_add, List.nil_append] at hs hv
    simp only [Nat.zero_add]
    refine Until.wpU_pure (i := 14) (oi := { dst := some 23, op := Op.build 25 #[(0, Operand.tmp 10), (3, Operand.tmp 16), (4, Operand.tmp 22)], type := 25, pos := "ref.go:143", after := #[{ on := 1, ground := Ground.data }, { on := 7, ground := Ground.data }, { on := 13, ground := Ground.data }], guard := none }) (v := .agg #[.int .i64 6, .int .i64 0, .string ⟨#[]⟩, .slice (some ⟨gs1, 0, none⟩) n caps, .slice (some ⟨gv1, 0, none⟩) n capv]) rfl (by kernel_rfl) (by kernel_rfl) (by kernel_rfl) (by kernel_rfl) (by kernel_rfl) (fun _ _ _ h => h) hA.one (fun _ => trivial) (by rfl) (by intro w'; go_simp) ?_
    try simp only [Act.put, List.setIfInBounds_toArray, List.set_cons_zero, List.set_cons_succ]
    obtain ⟨z0, z1, z2, z3, z4, zf⟩ := row_cells hA.two
    have zf0 := zf 0; have zf1 := zf 1; have zf2 := zf 2; have zf3 := zf 3; have zf4 := zf 4
    clear zf
    refine Until.wpU_ready (rs := [15]) (by kernel_rfl) (by simp) ?_
    refine (Until.AllU.cons (o := { dst := none, op := Op.store 25 (Operand.tmp 2) (Operand.tmp 23), type := 0, pos := "ref.go:143", after := #[{ on := 14, ground := Ground.data }, { on := 13, ground := Ground.chain }, { on := 0, ground := Ground.phase }, { on := 1, ground := Ground.phase }, { on := 2, ground := Ground.phase }, { on := 3, ground := Ground.phase }, { on := 4, ground := Ground.phase }, { on := 5, ground := Ground.phase }, { on := 6, ground := Ground.phase }, { on := 7, ground := Ground.phase }, { on := 8, ground := Ground.phase }, { on := 9, ground := Ground.phase }, { on := 10, ground := Ground.phase }, { on := 11, ground := Ground.phase }, { on := 12, ground := Ground.phase }, { on := 13, ground := Ground.phase }, { on := 14, ground := Ground.phase }], guard := none }) rfl (fun K hK => ?_) Until.AllU.nil)
    go_simp
    have hp := (put5_far (w := Y2) (g := w.heap.size + 1) (.int .i64 6) (.int .i64 0) (.string ⟨#[]⟩) (.slice (some ⟨gs1, 0, none⟩) n caps) (.slice (some ⟨gv1, 0, none⟩) n capv) (show w.heap.size ≠ w.heap.size + 1 by omega)).trans hA.one
    refine hK.out _ _ hp (fun _ => trivial) ?_
    clear hK K
    try simp only [Act.put, List.setIfInBounds_toArray, List.set_cons_zero, List.set_cons_succ]
    clear z0 z1 z2 z3 z4 zf0 zf1 zf2 zf3 zf4
    refine Until.wpU_done (by kernel_rfl) ?_ _
    refine NoPanic.normal ?_
    go_wp2_with fail
    have hr5 := put5_cells hA.two (.int .i64 6) (.int .i64 0) (.string ⟨#[]⟩) (.slice (some ⟨gs1, 0, none⟩) n caps) (.slice (some ⟨gv1, 0, none⟩) n capv)
    have r0 := hr5 0; have r1 := hr5 1; have r2 := hr5 2; have r3 := hr5 3; have r4 := hr5 4
    clear hr5
    refine bodyPost_ret (v := .agg #[.int .i64 6, .int .i64 0, .string ⟨#[]⟩, .slice (some ⟨gs1, 0, none⟩) n caps, .slice (some ⟨gv1, 0, none⟩) n capv]) (by simp [results, Try.results37, go_sem, r0, r1, r2, r3, r4]) rfl ?_
    have hs3 := hs.out
    rw [← hns] at hs3 ⊢
    rw [hns] at hs3 ⊢
    exact an_end hA (by rw [hns]; exact hs3) hv.out _ _ _ _ _
set_option maxHeartbeats 8000000 in
set_option maxRecDepth 100000 in
theorem ranew5 (x : Int) (tx : ByteArray) (an : Option Addr) (ln cn : Nat) (ai : Option Addr) (n ci : Nat) (xs : List Value) (hxs : xs.length = n * 5) (hb : (n + 1) * 80 ≤ 140737488355328) (hx1 : Hid (∀ v ∈ xs, v.oneCell' = true)) (w : World) (hI : Hid (LiesAt w ai xs)) :
    Calls Try.prog 37 #[.agg #[.int .i64 5, .int .i64 x, .string tx, .slice an ln cn, .slice ai n ci]] w (RAnew w 5 [] n xs) := by
  obtain ⟨iV, hiV, hv0, hv1, hv2⟩ := info_parts AV
  have hbv : Hid (0 + n ≤ maxLen ∧ (0 + n) * 80 ≤ 140737488355328) := by rw [Hid]; unfold maxLen; omega
  have hA := an_new w #[.int .i64 5, .int .i64 x, .string tx, .slice an ln cn, .slice ai n ci]
  go_enter Try.func37, Try.ntmps37
  go_upto_region 1 with fail
  generalize (w.alloc (.cells #[.int .i64 5, .int .i64 x, .string tx, .slice an ln cn, .slice ai n ci] 25)).alloc (.cells #[.int .i64 0, .int .i64 0, .string ⟨#[]⟩, .slice none 0 0, .slice none 0 0] 25) = X0 at hA ⊢
  obtain ⟨y0, y1, y2, y3, y4, -⟩ := row_cells hA.one
  go_upto_region 4 with fail
  clear y0 y1 y2 y3 y4
  replace hA := hA.drew
  generalize hX : X0.drew = X at hA
  refine wp_region_noPanic ?_
  refine Until.wp_region_U (fun w' => w'.heap[w.heap.size]? = some (.cells #[.int .i64 5, .int .i64 x, .string tx, .slice an ln cn, .slice ai n ci] 25 (0, 0))) (fun _ => True) 7 (by kernel_rfl) ?_
  rw [hX]
  clear hX
  refine Until.wpU_pure (i := 0) (oi := { dst := some 24, op := Op.fieldAddr 25 (Operand.tmp 1) 0, type := 0, pos := "ref.go:145", after := #[], guard := none }) (v := .pointer (some ⟨w.heap.size, 0, none⟩)) rfl (by kernel_rfl) (by kernel_rfl) (by kernel_rfl) (by kernel_rfl) (by kernel_rfl) (fun _ _ _ h => h) hA.one (fun _ => trivial) (by rfl) (by intro w'; go_simp) ?_
  try simp only [Act.put, List.setIfInBounds_toArray, List.set_cons_zero, List.set_cons_succ]
  refine Until.wpU_load0 (i := 1) (oi := { dst := some 25, op := Op.load 3 (Operand.tmp 24), type := 3, pos := "ref.go:145", after := #[{ on := 0, ground := Ground.data }], guard := none }) (v := .int .i64 5) rfl (by kernel_rfl) (by kernel_rfl) (by kernel_rfl) (by kernel_rfl) (by kernel_rfl) (fun _ _ _ h => h) hA.one (fun _ => trivial) (by rfl) (by intro w' hw'; obtain ⟨t0, t1, t2, t3, t4, -⟩ := row_cells hw'; clear hw'; go_simp) ?_
  try simp only [Act.put, List.setIfInBounds_toArray, List.set_cons_zero, List.set_cons_succ]
  refine Until.wpU_pure (i := 3) (oi := { dst := some 27, op := Op.fieldAddr 25 (Operand.tmp 1) 4, type := 0, pos := "ref.go:145", after := #[], guard := none }) (v := .pointer (some ⟨w.heap.size, 4, none⟩)) rfl (by kernel_rfl) (by kernel_rfl) (by kernel_rfl) (by kernel_rfl) (by kernel_rfl) (fun _ _ _ h => h) hA.one (fun _ => trivial) (by rfl) (by intro w'; go_simp) ?_
  try simp only [Act.put, List.setIfInBounds_toArray, List.set_cons_zero, List.set_cons_succ]
  refine Until.wpU_load0 (i := 4) (oi := { dst := some 28, op := Op.load 23 (Operand.tmp 27), type := 23, pos := "ref.go:145", after := #[{ on := 3, ground := Ground.data }], guard := none }) (v := .slice ai n ci) rfl (by kernel_rfl) (by kernel_rfl) (by kernel_rfl) (by kernel_rfl) (by kernel_rfl) (fun _ _ _ h => h) hA.one (fun _ => trivial) (by rfl) (by intro w' hw'; obtain ⟨t0, t1, t2, t3, t4, -⟩ := row_cells hw'; clear hw'; go_simp) ?_
  try simp only [Act.put, List.setIfInBounds_toArray, List.set_cons_zero, List.set_cons_succ]
  refine Until.wpU_ready (rs := [2]) (by kernel_rfl) (by simp) ?_
  refine (Until.AllU.cons (o := { dst := some 26, op := Op.buildSlice 23 0 #[], type := 23, pos := "ref.go:145", after := #[], guard := none }) rfl (fun K hK => ?_) Until.AllU.nil)
  go_simp
  have hv := hid_e (ownsRow_lo (owns_emptyV X 25 5) hA.lt)
  have hgv : w.heap.size + 2 ≤ X.heap.size := hA.lt
  replace hA := hA.alloc (.cells #[] 25)
  refine hK.out _ _ hA.one (fun _ => trivial) ?_
  clear hK K
  try simp only [Act.put, List.setIfInBounds_toArray, List.set_cons_zero, List.set_cons_succ]
  obtain ⟨gv, hq⟩ : ∃ g, X.heap.size = g := ⟨_, rfl⟩
  rw [hq] at hv hgv
  rw [hq]
  clear hq
  generalize X.alloc (.cells #[] 25) = X' at hA hv  ⊢
  refine Until.wpU_ready (rs := [5]) (by kernel_rfl) (by simp) ?_
  refine (Until.AllU.cons (o := { dst := some 29, op := Op.call { callee := Callee.builtin Builtin.append, args := #[Operand.tmp 26, Operand.tmp 28], argTypes := #[23, 23] }, type := 23, pos := "ref.go:145", after := #[{ on := 2, ground := Ground.data }, { on := 4, ground := Ground.data }], guard := none }) rfl (fun K hK => ?_) Until.AllU.nil)
  refine step_append_all X' (by rfl) _ _ 23 (by rfl) (w.heap.size + 2) 25 iV _ 5 80 Try.underlying23 hiV hv0 hv1 hv2 (by rfl) (by decide) gv 0 0 [] (by rfl) hv.out ai n ci xs (by rfl) hxs (lies_keep hI.out hA.below) hx1.out hbv.out.1 hbv.out.2 hA.lt ?_
  intro gv1 capv Y2 hoo hgr hat
  have hgv' : w.heap.size + 2 ≤ gv1 := by rcases hat with e | e; rw [e]; exact hgv; rw [e]; exact hA.lt
  replace hA := hA.grown hgr hgv
  replace hv := hid_e hoo
  replace hgv := hgv'
  clear hgr hat hoo hgv'
  refine hK.out _ _ hA.one (fun _ => trivial) ?_
  clear hK K
  try simp only [Act.put, List.setIfInBounds_toArray, List.set_cons_zero, List.set_cons_succ]
  simp only [Nat.zero_add, List.nil_append] at hv
  simp only [Nat.zero_add]
  refine Until.wpU_pure (i := 6) (oi := { dst := some 30, op := Op.build 25 #[(0, Operand.tmp 25), (4, Operand.tmp 29)], type := 25, pos := "ref.go:145", after := #[{ on := 1, ground := Ground.data }, { on := 5, ground := Ground.data }], guard := none }) (v := .agg #[.int .i64 5, .int .i64 0, .string ⟨#[]⟩, .slice none 0 0, .slice (some ⟨gv1, 0, none⟩) n capv]) rfl (by kernel_rfl) (by kernel_rfl) (by kernel_rfl) (by kernel_rfl) (by kernel_rfl) (fun _ _ _ h => h) hA.one (fun _ => trivial) (by rfl) (by intro w'; go_simp) ?_
  try simp only [Act.put, List.setIfInBounds_toArray, List.set_cons_zero, List.set_cons_succ]
  obtain ⟨z0, z1, z2, z3, z4, zf⟩ := row_cells hA.two
  have zf0 := zf 0; have zf1 := zf 1; have zf2 := zf 2; have zf3 := zf 3; have zf4 := zf 4
  clear zf
  refine Until.wpU_ready (rs := [7]) (by kernel_rfl) (by simp) ?_
  refine (Until.AllU.cons (o := { dst := none, op := Op.store 25 (Operand.tmp 2) (Operand.tmp 30), type := 0, pos := "ref.go:145", after := #[{ on := 6, ground := Ground.data }, { on := 5, ground := Ground.chain }, { on := 0, ground := Ground.phase }, { on := 1, ground := Ground.phase }, { on := 2, ground := Ground.phase }, { on := 3, ground := Ground.phase }, { on := 4, ground := Ground.phase }, { on := 5, ground := Ground.phase }, { on := 6, ground := Ground.phase }], guard := none }) rfl (fun K hK => ?_) Until.AllU.nil)
  go_simp
  have hp := (put5_far (w := Y2) (g := w.heap.size + 1) (.int .i64 5) (.int .i64 0) (.string ⟨#[]⟩) (.slice none 0 0) (.slice (some ⟨gv1, 0, none⟩) n capv) (show w.heap.size ≠ w.heap.size + 1 by omega)).trans hA.one
  refine hK.out _ _ hp (fun _ => trivial) ?_
  clear hK K
  try simp only [Act.put, List.setIfInBounds_toArray, List.set_cons_zero, List.set_cons_succ]
  clear z0 z1 z2 z3 z4 zf0 zf1 zf2 zf3 zf4
  refine Until.wpU_done (by kernel_rfl) ?_ _
  refine NoPanic.normal ?_
  go_wp2_with fail
  have hr5 := put5_cells hA.two (.int .i64 5) (.int .i64 0) (.string ⟨#[]⟩) (.slice none 0 0) (.slice (some ⟨gv1, 0, none⟩) n capv)
  have r0 := hr5 0; have r1 := hr5 1; have r2 := hr5 2; have r3 := hr5 3; have r4 := hr5 4
  clear hr5
  refine bodyPost_ret (v := .agg #[.int .i64 5, .int .i64 0, .string ⟨#[]⟩, .slice none 0 0, .slice (some ⟨gv1, 0, none⟩) n capv]) (by simp [results, Try.results37, go_sem, r0, r1, r2, r3, r4]) rfl ?_
  exact an_end hA (World.ownsRow_nil _ _ _ _) hv.out _ _ _ _ _
end Go.Proofs.Ytmlbofbnklmedaa
