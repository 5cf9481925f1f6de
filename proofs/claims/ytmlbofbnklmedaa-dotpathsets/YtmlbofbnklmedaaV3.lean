import Derived.Test.YtmlbofbnklmedaaK5
import Derived.Test.YtmlbofbnklmedaaT8
import Derived.Test.YtmlbofbnklmedaaTE
/-! Every Set and every Unset: the walk. -/
namespace Go.Proofs.Ytmlbofbnklmedaa
open Go Go.RowKit

/-- A variable of type Value: its box, and what it reads as. -/
def VB (W : World) (g : Nat) (k x : Int) (s : ByteArray) (an : Option Addr) (ln cn : Nat) (ai : Option Addr) (li ci : Nat) (t : Tr) : Prop :=
  W.heap[g]? = some (.cells #[.int .i64 k, .int .i64 x, .string s, .slice an ln cn, .slice ai li ci] 25 (0, 0)) ∧ VRep W t (five k x s (.slice an ln cn) (.slice ai li ci))
theorem VB.keep {W W' : World} {g : Nat} {k x : Int} {s : ByteArray} {an : Option Addr} {ln cn : Nat} {ai : Option Addr} {li ci : Nat} {t : Tr} (h : VB W g k x s an ln cn ai li ci t) (hb : Below W.heap.size W W') : VB W' g k x s an ln cn ai li ci t :=
  ⟨block_keep h.1 hb, VRep.keep hb _ _ h.2⟩
theorem VB.new {W : World} {k x : Int} {s : ByteArray} {an : Option Addr} {ln cn : Nat} {ai : Option Addr} {li ci : Nat} {t : Tr} (h : VRep W t (five k x s (.slice an ln cn) (.slice ai li ci))) :
    VB (W.alloc (.cells #[.int .i64 k, .int .i64 x, .string s, .slice an ln cn, .slice ai li ci] 25)) W.heap.size k x s an ln cn ai li ci t :=
  ⟨heap_alloc_new W _, VRep.keep ((Below.refl _ W).alloc (Nat.le_refl _) _) _ _ h⟩
/-- What is read there whatever the boxes l hold. -/
def Off (W : World) (l : List Nat) (t : Tr) (cs : List Value) : Prop := ∀ W' : World, W.heap.size ≤ W'.heap.size → (∀ j, j ∉ l → j < W.heap.size → W'.heap[j]? = W.heap[j]?) → VRep W' t cs
theorem off_copy {A Y : World} {l : List Nat} {t : Tr} {cs : List Value} (hl : ∀ g ∈ l, g < A.heap.size) (hs : Seen Y (fun j => A.heap.size ≤ j) t cs) : Off Y l t cs :=
  fun W' h1 h2 => hs W' ⟨h1, fun p u hp hc => (World.cell?_of_block (w := Y) (h2 p.block (fun h => by have := hl _ h; omega) (cell_lt hc))).trans hc⟩
theorem off_alloc {Y : World} {l : List Nat} {t : Tr} {cs : List Value} (h : Off Y l t cs) (o : Obj) : Off (Y.alloc o) (Y.heap.size :: l) t cs := by
  intro W' h1 h2
  rw [World.size_alloc] at h1
  refine h W' (by omega) (fun j hj hlt => (h2 j ?_ (by rw [World.size_alloc]; omega)).trans (Below.heap_alloc _ _ _ hlt))
  intro hm
  rcases List.mem_cons.1 hm with e | e
  · omega
  · exact hj e
theorem off_keep {Y Z : World} {l : List Nat} {t : Tr} {cs : List Value} (h : Off Y l t cs) (hb : Below Y.heap.size Y Z) : Off Z l t cs :=
  fun W' h1 h2 => h W' (Nat.le_trans hb.size h1) (fun j hj hlt => (h2 j hj (Nat.lt_of_lt_of_le hlt hb.size)).trans (hb.block j hlt))
theorem off_end {W : World} {l : List Nat} {t : Tr} {cs : List Value} {g h : Nat} (ho : Off W l t cs) (hg : g ∈ l) (hh : h ∈ l) (a0 a1 a2 a3 a4 b0 b1 b2 b3 b4 : Value) : VRep (put5 (put5 W g a0 a1 a2 a3 a4) h b0 b1 b2 b3 b4) t cs :=
  ho _ (by rw [put5_size, put5_size]; exact Nat.le_refl _) (fun j hj _ => (put5_far _ _ _ _ _ (fun e => hj (by rw [e]; exact hh))).trans (put5_far _ _ _ _ _ (fun e => hj (by rw [e]; exact hg))))
theorem chg_lt {w W : World} {b : Array Value} (h : Chg w b W) : w.heap.size < W.heap.size := (Array.getElem?_eq_some_iff.1 h.box).1
theorem chg_put {w W : World} {b : Array Value} {g : Nat} (h : Chg w b W) (hg : w.heap.size < g) (a0 a1 a2 a3 a4 : Value) : Chg w b (put5 W g a0 a1 a2 a3 a4) :=
  ⟨h.below.trans (put5_below (by omega) _ _ _ _ _), (put5_far _ _ _ _ _ (by omega)).trans h.box⟩
theorem two_end {W : World} {g h : Nat} {l : List Nat} {V X : Tr} {k x : Int} {s : ByteArray} {an : Option Addr} {ln cn : Nat} {ai : Option Addr} {li ci : Nat} {k' x' : Int} {s' : ByteArray} {an' : Option Addr} {ln' cn' : Nat} {ai' : Option Addr} {li' ci' : Nat} {z z' : Value} {z1 z2 z3 z4 z1' z2' z3' z4' : Value}
    (n6 : W.heap[g]? = some (.cells #[z, z1, z2, z3, z4] 25 (0, 0))) (n7 : W.heap[h]? = some (.cells #[z', z1', z2', z3', z4'] 25 (0, 0))) (hne : g ≠ h) (o1 : Off W l V (five k x s (.slice an ln cn) (.slice ai li ci))) (o2 : Off W l X (five k' x' s' (.slice an' ln' cn') (.slice ai' li' ci'))) (m6 : g ∈ l) (m7 : h ∈ l) :
    VB (put5 (put5 W g (.int .i64 k) (.int .i64 x) (.string s) (.slice an ln cn) (.slice ai li ci)) h (.int .i64 k') (.int .i64 x') (.string s') (.slice an' ln' cn') (.slice ai' li' ci')) g k x s an ln cn ai li ci V ∧ VB (put5 (put5 W g (.int .i64 k) (.int .i64 x) (.string s) (.slice an ln cn) (.slice ai li ci)) h (.int .i64 k') (.int .i64 x') (.string s') (.slice an' ln' cn') (.slice ai' li' ci')) h k' x' s' an' ln' cn' ai' li' ci' X :=
  ⟨⟨(put5_far _ _ _ _ _ hne).trans (put5_at n6 _ _ _ _ _), off_end o1 m6 m7 _ _ _ _ _ _ _ _ _ _⟩, ⟨put5_at ((put5_far _ _ _ _ _ (Ne.symm hne)).trans n7) _ _ _ _ _, off_end o2 m6 m7 _ _ _ _ _ _ _ _ _ _⟩⟩
theorem rs_rep {w0 w w' : World} {n : Int} {R : Tr} {e : Ending} (h : RS w0 w n R e w') : ∃ k x s an ln cn ai li ci, e = .returned (.tuple #[.agg #[.int .i64 k, .int .i64 x, .string s, .slice an ln cn, .slice ai li ci], .int .i64 n]) ∧ VRep w' R (five k x s (.slice an ln cn) (.slice ai li ci)) ∧ Below w.heap.size w w' := by
  obtain ⟨k, x, s, an, ln, cn, ai, li, ci, he, hs, hb⟩ := h
  exact ⟨k, x, s, an, ln, cn, ai, li, ci, he, hs.rep, hb⟩
theorem ru_rep {w0 w w' : World} {n : Bool} {R : Tr} {e : Ending} (h : RU w0 w n R e w') : ∃ k x s an ln cn ai li ci, e = .returned (.tuple #[.agg #[.int .i64 k, .int .i64 x, .string s, .slice an ln cn, .slice ai li ci], .bool n]) ∧ VRep w' R (five k x s (.slice an ln cn) (.slice ai li ci)) ∧ Below w.heap.size w w' := by
  obtain ⟨k, x, s, an, ln, cn, ai, li, ci, he, hs, hb⟩ := h
  exact ⟨k, x, s, an, ln, cn, ai, li, ci, he, hs.rep, hb⟩
set_option maxHeartbeats 8000000 in
set_option maxRecDepth 100000 in
theorem sets_true (k1 x1 : Int) (s1 : ByteArray) (an1 : Option Addr) (ln1 cn1 : Nat) (ai1 : Option Addr) (li1 ci1 : Nat) (k2 x2 : Int) (s2 : ByteArray) (an2 : Option Addr) (ln2 cn2 : Nat) (ai2 : Option Addr) (li2 ci2 : Nat) (pp : Option Addr) (cp : Nat) (V X : Tr) (P : List ByteArray) (w : World)
    (hV : Hid (VRep w V (five k1 x1 s1 (.slice an1 ln1 cn1) (.slice ai1 li1 ci1)))) (hX : Hid (VRep w X (five k2 x2 s2 (.slice an2 ln2 cn2) (.slice ai2 li2 ci2)))) (hsV : Hid (SmallT V)) (hsX : Hid (SmallT X)) (hP : Hid (Reads w (.slice pp P.length cp) P)) (zP : Hid (Sized P)) :
    Calls Try.prog 5 #[.agg #[.int .i64 k1, .int .i64 x1, .string s1, .slice an1 ln1 cn1, .slice ai1 li1 ci1, .slice pp P.length cp, .int .i64 k2, .int .i64 x2, .string s2, .slice an2 ln2 cn2, .slice ai2 li2 ci2]] w fun e w' => e = .returned (.bool true) ∧ Below w.heap.size w w' := by
  have lP := hP.out.len
  have hlg : ∀ o p, Hid (Calls Try.prog 6 #[.slice (some ⟨w.heap.size + 1, 0, none⟩) 2 2] ((w.alloc o).alloc (.cells #[.int .i64 k1, .int .i64 x1, .string s1, .slice an1 ln1 cn1, .slice ai1 li1 ci1, .int .i64 k2, .int .i64 x2, .string s2, .slice an2 ln2 cn2, .slice ai2 li2 ci2] p)) fun e w' => (∃ z, e = .returned (.bool z)) ∧ Below ((w.alloc o).alloc (.cells #[.int .i64 k1, .int .i64 x1, .string s1, .slice an1 ln1 cn1, .slice ai1 li1 ci1, .int .i64 k2, .int .i64 x2, .string s2, .slice an2 ln2 cn2, .slice ai2 li2 ci2] p)).heap.size ((w.alloc o).alloc (.cells #[.int .i64 k1, .int .i64 x1, .string s1, .slice an1 ln1 cn1, .slice ai1 li1 ci1, .int .i64 k2, .int .i64 x2, .string s2, .slice an2 ln2 cn2, .slice ai2 li2 ci2] p)) w') := fun o p => hid_f (large_any [V, X] (w.heap.size + 1) 0 2 _ (by simp) (fun _ => by simp) (hid_f (by
    have hcell : ∀ j, ((w.alloc o).alloc (.cells #[.int .i64 k1, .int .i64 x1, .string s1, .slice an1 ln1 cn1, .slice ai1 li1 ci1, .int .i64 k2, .int .i64 x2, .string s2, .slice an2 ln2 cn2, .slice ai2 li2 ci2] p)).cell? ⟨w.heap.size + 1, j, none⟩ = (#[.int .i64 k1, .int .i64 x1, .string s1, .slice an1 ln1 cn1, .slice ai1 li1 ci1, .int .i64 k2, .int .i64 x2, .string s2, .slice an2 ln2 cn2, .slice ai2 li2 ci2] : Array Value)[j]? := fun j => by
      unfold World.cell?
      rw [new2 w o (.cells #[.int .i64 k1, .int .i64 x1, .string s1, .slice an1 ln1 cn1, .slice ai1 li1 ci1, .int .i64 k2, .int .i64 x2, .string s2, .slice an2 ln2 cn2, .slice ai2 li2 ci2] p)]
      rfl
    unfold VRepL VRepL VRepL
    refine ⟨(five k1 x1 s1 (.slice an1 ln1 cn1) (.slice ai1 li1 ci1)), fun j u hj => ?_, VRep.keep (below_two w _ _) _ _ hV.out, (five k2 x2 s2 (.slice an2 ln2 cn2) (.slice ai2 li2 ci2)), fun j u hj => ?_, VRep.keep (below_two w _ _) _ _ hX.out, trivial⟩
    all_goals
      rw [hcell]
      have hj5 := (List.getElem?_eq_some_iff.1 hj).1
      simp only [five, List.length_cons, List.length_nil] at hj5
      match j, hj5 with
      | 0, _ => exact hj
      | 1, _ => exact hj
      | 2, _ => exact hj
      | 3, _ => exact hj
      | 4, _ => exact hj)))
  go_enter Try.func5, Try.ntmps5
  go_upto_region 1 with fail
  go_cut [29] (fun v wx => Looked (P.length ≤ 1000) v ∧ Chg w #[.int .i64 k1, .int .i64 x1, .string s1, .slice an1 ln1 cn1, .slice ai1 li1 ci1, .slice pp P.length cp, .int .i64 k2, .int .i64 x2, .string s2, .slice an2 ln2 cn2, .slice ai2 li2 ci2] wx)
  case first =>
    go_wp2_with fail
    go_fit (hlg _ _).out
    rintro e X0 ⟨⟨z, rfl⟩, hb⟩
    have hT0 : Chg w #[.int .i64 k1, .int .i64 x1, .string s1, .slice an1 ln1 cn1, .slice ai1 li1 ci1, .slice pp P.length cp, .int .i64 k2, .int .i64 x2, .string s2, .slice an2 ln2 cn2, .slice ai2 li2 ci2] X0 := ⟨(below_two w _ _).trans (hb.mono (by simp only [World.size_alloc]; omega)), (hb.block _ (by simp only [World.size_alloc]; omega)).trans (new1 w _ _)⟩
    clear hb hlg
    cases z
    · skip
      have c0 := Chg.cell hT0 (j := 0) rfl
      have c1 := Chg.cell hT0 (j := 1) rfl
      have c2 := Chg.cell hT0 (j := 2) rfl
      have c3 := Chg.cell hT0 (j := 3) rfl
      have c4 := Chg.cell hT0 (j := 4) rfl
      have c5 := Chg.cell hT0 (j := 5) rfl
      have c6 := Chg.cell hT0 (j := 6) rfl
      have c7 := Chg.cell hT0 (j := 7) rfl
      have c8 := Chg.cell hT0 (j := 8) rfl
      have c9 := Chg.cell hT0 (j := 9) rfl
      have c10 := Chg.cell hT0 (j := 10) rfl
      by_cases h0 : 1000 < P.length
      · have d0 : decide ((1000 : Int) < (P.length : Int)) = true := by simp; omega
        go_wp2_with fail
        go_meet
        exact ⟨looked_yes, hT0⟩
      · have d0 : decide ((1000 : Int) < (P.length : Int)) = false := by simp; omega
        go_wp2_with fail
        go_meet
        exact ⟨⟨false, rfl, fun _ => by omega⟩, hT0⟩
    · go_wp2_with fail
      go_meet
      exact ⟨looked_yes, hT0⟩
  case rest =>
    clear hlg
    obtain ⟨⟨z, rfl, hz⟩, hT⟩ := hcut
    cases z
    rotate_left
    · go_wp2_with fail
      refine (live_true _).mono ?_
      rintro e w9 ⟨rfl, hb9⟩
      go_wp2_with fail
      go_ret
      exact ⟨rfl, hT.below.trans (hb9.mono hT.below.size)⟩
    have a1 := hz rfl
    have wV := hid_f (wide_more V (small_wide V hsV.out))
    clear hz
    have hl : P.length * 16 + 48 ≤ 140737488355328 := by omega
    go_upto_region 3 with fail
    go_cut [3, 4] (fun pv qv wx => ∃ (g6 g7 : Nat) (kv xv : Int) (sv : ByteArray) (anv : Option Addr) (lnv cnv : Nat) (aiv : Option Addr) (liv civ : Nat) (ky xy : Int) (sy : ByteArray) (any : Option Addr) (lny cny : Nat) (aiy : Option Addr) (liy ciy : Nat), pv = .pointer (some ⟨g6, 0, none⟩) ∧ qv = .pointer (some ⟨g7, 0, none⟩) ∧ Chg w #[.int .i64 k1, .int .i64 x1, .string s1, .slice an1 ln1 cn1, .slice ai1 li1 ci1, .slice pp P.length cp, .int .i64 k2, .int .i64 x2, .string s2, .slice an2 ln2 cn2, .slice ai2 li2 ci2] wx ∧ Hid (VB wx g6 kv xv sv anv lnv cnv aiv liv civ V) ∧ Hid (VB wx g7 ky xy sy any lny cny aiy liy ciy X))
    case first =>
      replace hT : Chg w #[.int .i64 k1, .int .i64 x1, .string s1, .slice an1 ln1 cn1, .slice ai1 li1 ci1, .slice pp P.length cp, .int .i64 k2, .int .i64 x2, .string s2, .slice an2 ln2 cn2, .slice ai2 li2 ci2] wc.drew := hT.keep ⟨rfl, rfl, rfl, Nat.le_refl _, fun _ _ => rfl⟩
      generalize hX9 : wc.drew = A0 at hT
      refine wp_region_noPanic ?_
      refine Until.wp_region_U (fun w' => Chg w #[.int .i64 k1, .int .i64 x1, .string s1, .slice an1 ln1 cn1, .slice ai1 li1 ci1, .slice pp P.length cp, .int .i64 k2, .int .i64 x2, .string s2, .slice an2 ln2 cn2, .slice ai2 li2 ci2] w') (fun _ => True) 100 (by kernel_rfl) ?_
      rw [hX9]
      clear hX9
      refine Until.wpU_pure (i := 0) (oi := { dst := some 31, op := Op.fieldAddr 41 (Operand.tmp 1) 0, type := 0, pos := "law.go:137", after := #[], guard := none }) (v := .pointer (some ⟨w.heap.size, 0, none⟩)) rfl (by kernel_rfl) (by kernel_rfl) (by kernel_rfl) (by kernel_rfl) (by kernel_rfl) (fun _ _ _ h => h) hT (fun _ => trivial) (by rfl) (by intro w'; go_simp) ?_
      try simp only [Act.put, List.setIfInBounds_toArray, List.set_cons_zero, List.set_cons_succ]
      refine Until.wpU_load0 (i := 1) (oi := { dst := some 32, op := Op.load 25 (Operand.tmp 31), type := 25, pos := "law.go:137", after := #[{ on := 0, ground := Ground.data }], guard := none }) (v := .agg #[.int .i64 k1, .int .i64 x1, .string s1, .slice an1 ln1 cn1, .slice ai1 li1 ci1]) rfl (by kernel_rfl) (by kernel_rfl) (by kernel_rfl) (by kernel_rfl) (by kernel_rfl) (fun _ _ _ h => h) hT (fun _ => trivial) (by rfl) (by intro w' hw'; have t0 := Chg.cell hw' (j := 0) rfl; have t1 := Chg.cell hw' (j := 1) rfl; have t2 := Chg.cell hw' (j := 2) rfl; have t3 := Chg.cell hw' (j := 3) rfl; have t4 := Chg.cell hw' (j := 4) rfl; have t5 := Chg.cell hw' (j := 5) rfl; have t6 := Chg.cell hw' (j := 6) rfl; have t7 := Chg.cell hw' (j := 7) rfl; have t8 := Chg.cell hw' (j := 8) rfl; have t9 := Chg.cell hw' (j := 9) rfl; have t10 := Chg.cell hw' (j := 10) rfl; clear hw'; go_simp) ?_
      try simp only [Act.put, List.setIfInBounds_toArray, List.set_cons_zero, List.set_cons_succ]
      refine Until.wpU_pure (i := 3) (oi := { dst := some 34, op := Op.fieldAddr 41 (Operand.tmp 1) 2, type := 0, pos := "law.go:137", after := #[], guard := none }) (v := .pointer (some ⟨w.heap.size, 6, none⟩)) rfl (by kernel_rfl) (by kernel_rfl) (by kernel_rfl) (by kernel_rfl) (by kernel_rfl) (fun _ _ _ h => h) hT (fun _ => trivial) (by rfl) (by intro w'; go_simp) ?_
      try simp only [Act.put, List.setIfInBounds_toArray, List.set_cons_zero, List.set_cons_succ]
      refine Until.wpU_load0 (i := 4) (oi := { dst := some 35, op := Op.load 25 (Operand.tmp 34), type := 25, pos := "law.go:137", after := #[{ on := 3, ground := Ground.data }], guard := none }) (v := .agg #[.int .i64 k2, .int .i64 x2, .string s2, .slice an2 ln2 cn2, .slice ai2 li2 ci2]) rfl (by kernel_rfl) (by kernel_rfl) (by kernel_rfl) (by kernel_rfl) (by kernel_rfl) (fun _ _ _ h => h) hT (fun _ => trivial) (by rfl) (by intro w' hw'; have t0 := Chg.cell hw' (j := 0) rfl; have t1 := Chg.cell hw' (j := 1) rfl; have t2 := Chg.cell hw' (j := 2) rfl; have t3 := Chg.cell hw' (j := 3) rfl; have t4 := Chg.cell hw' (j := 4) rfl; have t5 := Chg.cell hw' (j := 5) rfl; have t6 := Chg.cell hw' (j := 6) rfl; have t7 := Chg.cell hw' (j := 7) rfl; have t8 := Chg.cell hw' (j := 8) rfl; have t9 := Chg.cell hw' (j := 9) rfl; have t10 := Chg.cell hw' (j := 10) rfl; clear hw'; go_simp) ?_
      try simp only [Act.put, List.setIfInBounds_toArray, List.set_cons_zero, List.set_cons_succ]
      refine Until.wpU_ready (rs := [2, 6, 7]) (by kernel_rfl) (by simp) ?_
      refine (Until.AllU.cons (o := { dst := some 33, op := Op.call { callee := Callee.value (Operand.func 18), args := #[Operand.tmp 32], argTypes := #[25] }, type := 25, pos := "law.go:137", after := #[{ on := 1, ground := Ground.data }], guard := none }) rfl (fun K hK => ?_) (Until.AllU.cons (o := { dst := some 3, op := Op.alloc 25, type := 0, pos := "law.go:137", after := #[], guard := none }) rfl (fun K hK => ?_) (Until.AllU.cons (o := { dst := some 4, op := Op.alloc 25, type := 0, pos := "law.go:137", after := #[], guard := none }) rfl (fun K hK => ?_) Until.AllU.nil)))
      · skip
        go_simp
        refine (copyv_any V (five k1 x1 s1 (.slice an1 ln1 cn1) (.slice ai1 li1 ci1)) A0 (VRep.keep hT.below _ _ hV.out) hsV.out).mono ?_
        rintro e A0a ⟨kv, xv, sv, anv, lnv, cnv, aiv, liv, civ, rfl, hse, hb⟩
        replace hT := hT.keep hb
        have o2 := hid_f (off_copy (l := []) (by simp) hse)
        clear hse hb
        refine hK.out _ _ hT (fun _ => trivial) ?_
        clear hK K
        try simp only [Act.put, List.setIfInBounds_toArray, List.set_cons_zero, List.set_cons_succ]
        refine Until.wpU_ready (rs := [5, 6, 7]) (by kernel_rfl) (by simp) ?_
        refine (Until.AllU.cons (o := { dst := some 36, op := Op.call { callee := Callee.value (Operand.func 18), args := #[Operand.tmp 35], argTypes := #[25] }, type := 25, pos := "law.go:137", after := #[{ on := 4, ground := Ground.data }, { on := 2, ground := Ground.chain }], guard := none }) rfl (fun K hK => ?_) (Until.AllU.cons (o := { dst := some 3, op := Op.alloc 25, type := 0, pos := "law.go:137", after := #[], guard := none }) rfl (fun K hK => ?_) (Until.AllU.cons (o := { dst := some 4, op := Op.alloc 25, type := 0, pos := "law.go:137", after := #[], guard := none }) rfl (fun K hK => ?_) Until.AllU.nil)))
        · skip
          go_simp
          refine (copyv_any X (five k2 x2 s2 (.slice an2 ln2 cn2) (.slice ai2 li2 ci2)) A0a (VRep.keep hT.below _ _ hX.out) hsX.out).mono ?_
          rintro e A0ab ⟨ky, xy, sy, any, lny, cny, aiy, liy, ciy, rfl, hse, hb⟩
          replace hT := hT.keep hb
          replace o2 := hid_f (off_keep o2.out hb)
          have o5 := hid_f (off_copy (l := []) (by simp) hse)
          clear hse hb
          refine hK.out _ _ hT (fun _ => trivial) ?_
          clear hK K
          try simp only [Act.put, List.setIfInBounds_toArray, List.set_cons_zero, List.set_cons_succ]
          refine Until.wpU_ready (rs := [6, 7]) (by kernel_rfl) (by simp) ?_
          refine (Until.AllU.cons (o := { dst := some 3, op := Op.alloc 25, type := 0, pos := "law.go:137", after := #[], guard := none }) rfl (fun K hK => ?_) (Until.AllU.cons (o := { dst := some 4, op := Op.alloc 25, type := 0, pos := "law.go:137", after := #[], guard := none }) rfl (fun K hK => ?_) Until.AllU.nil))
          · skip
            go_simp
            have n6 := heap_alloc_new A0ab (.cells #[.int .i64 0, .int .i64 0, .string ⟨#[]⟩, .slice none 0 0, .slice none 0 0] 25)
            have l6 := chg_lt hT
            have hz : (A0ab.alloc (.cells #[.int .i64 0, .int .i64 0, .string ⟨#[]⟩, .slice none 0 0, .slice none 0 0] 25)).heap.size = A0ab.heap.size + 1 := World.size_alloc _ _
            replace hT := hT.keep ((Below.refl _ A0ab).alloc (Nat.le_refl _) (.cells #[.int .i64 0, .int .i64 0, .string ⟨#[]⟩, .slice none 0 0, .slice none 0 0] 25))
            replace o2 := hid_f (off_alloc o2.out (.cells #[.int .i64 0, .int .i64 0, .string ⟨#[]⟩, .slice none 0 0, .slice none 0 0] 25))
            replace o5 := hid_f (off_alloc o5.out (.cells #[.int .i64 0, .int .i64 0, .string ⟨#[]⟩, .slice none 0 0, .slice none 0 0] 25))
            refine hK.out _ _ hT (fun _ => trivial) ?_
            clear hK K
            try simp only [Act.put, List.setIfInBounds_toArray, List.set_cons_zero, List.set_cons_succ]
            generalize A0ab.alloc (.cells #[.int .i64 0, .int .i64 0, .string ⟨#[]⟩, .slice none 0 0, .slice none 0 0] 25) = A0abc at hT n6 hz o2 o5 ⊢
            obtain ⟨g6, hq⟩ : ∃ g, A0ab.heap.size = g := ⟨_, rfl⟩
            rw [hq] at n6 l6 hz o2 o5
            rw [hq]
            clear hq
            have s6 : g6 < A0abc.heap.size := by omega
            clear hz
            refine Until.wpU_ready (rs := [7]) (by kernel_rfl) (by simp) ?_
            refine (Until.AllU.cons (o := { dst := some 4, op := Op.alloc 25, type := 0, pos := "law.go:137", after := #[], guard := none }) rfl (fun K hK => ?_) Until.AllU.nil)
            go_simp
            have n7 := heap_alloc_new A0abc (.cells #[.int .i64 0, .int .i64 0, .string ⟨#[]⟩, .slice none 0 0, .slice none 0 0] 25)
            have l7 := chg_lt hT
            have hz : (A0abc.alloc (.cells #[.int .i64 0, .int .i64 0, .string ⟨#[]⟩, .slice none 0 0, .slice none 0 0] 25)).heap.size = A0abc.heap.size + 1 := World.size_alloc _ _
            replace hT := hT.keep ((Below.refl _ A0abc).alloc (Nat.le_refl _) (.cells #[.int .i64 0, .int .i64 0, .string ⟨#[]⟩, .slice none 0 0, .slice none 0 0] 25))
            replace o2 := hid_f (off_alloc o2.out (.cells #[.int .i64 0, .int .i64 0, .string ⟨#[]⟩, .slice none 0 0, .slice none 0 0] 25))
            replace o5 := hid_f (off_alloc o5.out (.cells #[.int .i64 0, .int .i64 0, .string ⟨#[]⟩, .slice none 0 0, .slice none 0 0] 25))
            replace n6 := block_keep n6 ((Below.refl _ A0abc).alloc (Nat.le_refl _) (.cells #[.int .i64 0, .int .i64 0, .string ⟨#[]⟩, .slice none 0 0, .slice none 0 0] 25))
            refine hK.out _ _ hT (fun _ => trivial) ?_
            clear hK K
            try simp only [Act.put, List.setIfInBounds_toArray, List.set_cons_zero, List.set_cons_succ]
            generalize A0abc.alloc (.cells #[.int .i64 0, .int .i64 0, .string ⟨#[]⟩, .slice none 0 0, .slice none 0 0] 25) = A0abcd at hT n7 hz o2 o5 n6 ⊢
            obtain ⟨g7, hq⟩ : ∃ g, A0abc.heap.size = g := ⟨_, rfl⟩
            rw [hq] at n7 l7 hz o2 o5 s6
            rw [hq]
            clear hq
            have s7 : g7 < A0abcd.heap.size := by omega
            have hne : g6 ≠ g7 := by omega
            replace s6 : g6 < A0abcd.heap.size := by omega
            clear hz
            obtain ⟨z0, z1, z2, z3, z4, zf⟩ := row_cells n6
            have zf0 := zf 0; have zf1 := zf 1; have zf2 := zf 2; have zf3 := zf 3; have zf4 := zf 4
            clear zf
            refine Until.wpU_ready (rs := [8]) (by kernel_rfl) (by simp) ?_
            refine (Until.AllU.cons (o := { dst := none, op := Op.store 25 (Operand.tmp 3) (Operand.tmp 33), type := 0, pos := "law.go:137", after := #[{ on := 6, ground := Ground.data }, { on := 2, ground := Ground.data }, { on := 5, ground := Ground.chain }, { on := 0, ground := Ground.phase }, { on := 1, ground := Ground.phase }, { on := 2, ground := Ground.phase }, { on := 3, ground := Ground.textOnly Departure.lateStores }, { on := 4, ground := Ground.textOnly Departure.lateStores }, { on := 5, ground := Ground.textOnly Departure.lateStoresUnsure }, { on := 6, ground := Ground.phase }, { on := 7, ground := Ground.phase }], guard := none }) rfl (fun K hK => ?_) Until.AllU.nil)
            go_simp
            have hT8 := chg_put hT l6 (.int .i64 kv) (.int .i64 xv) (.string sv) (.slice anv lnv cnv) (.slice aiv liv civ)
            refine hK.out _ _ hT8 (fun _ => trivial) ?_
            clear hK K
            try simp only [Act.put, List.setIfInBounds_toArray, List.set_cons_zero, List.set_cons_succ]
            clear z0 z1 z2 z3 z4 zf0 zf1 zf2 zf3 zf4
            obtain ⟨z0, z1, z2, z3, z4, zf⟩ := row_cells n7
            have hne2 := Ne.symm hne
            have zf0 := zf 0; have zf1 := zf 1; have zf2 := zf 2; have zf3 := zf 3; have zf4 := zf 4
            clear zf
            obtain ⟨b6, b7⟩ := two_end n6 n7 hne o2.out o5.out (by simp) (by simp)
            replace b6 := hid_f b6
            replace b7 := hid_f b7
            refine Until.wpU_ready (rs := [9]) (by kernel_rfl) (by simp) ?_
            refine (Until.AllU.cons (o := { dst := none, op := Op.store 25 (Operand.tmp 4) (Operand.tmp 36), type := 0, pos := "law.go:137", after := #[{ on := 7, ground := Ground.data }, { on := 5, ground := Ground.data }, { on := 8, ground := Ground.chain }, { on := 0, ground := Ground.phase }, { on := 1, ground := Ground.phase }, { on := 2, ground := Ground.phase }, { on := 3, ground := Ground.phase }, { on := 4, ground := Ground.phase }, { on := 5, ground := Ground.phase }, { on := 6, ground := Ground.phase }, { on := 7, ground := Ground.phase }, { on := 8, ground := Ground.phase }], guard := none }) rfl (fun K hK => ?_) Until.AllU.nil)
            go_simp
            have hT9 := chg_put hT8 l7 (.int .i64 ky) (.int .i64 xy) (.string sy) (.slice any lny cny) (.slice aiy liy ciy)
            refine hK.out _ _ hT9 (fun _ => trivial) ?_
            clear hK K
            try simp only [Act.put, List.setIfInBounds_toArray, List.set_cons_zero, List.set_cons_succ]
            clear z0 z1 z2 z3 z4 zf0 zf1 zf2 zf3 zf4
            refine Until.wpU_done (by kernel_rfl) ?_ _
            refine NoPanic.normal ?_
            go_wp2_with fail
            go_meet
            exact ⟨_, _, _, _, _, _, _, _, _, _, _, _, _, _, _, _, _, _, _, _, rfl, rfl, hT9, b6, b7⟩
          · skip
            go_simp
            have n7 := heap_alloc_new A0ab (.cells #[.int .i64 0, .int .i64 0, .string ⟨#[]⟩, .slice none 0 0, .slice none 0 0] 25)
            have l7 := chg_lt hT
            have hz : (A0ab.alloc (.cells #[.int .i64 0, .int .i64 0, .string ⟨#[]⟩, .slice none 0 0, .slice none 0 0] 25)).heap.size = A0ab.heap.size + 1 := World.size_alloc _ _
            replace hT := hT.keep ((Below.refl _ A0ab).alloc (Nat.le_refl _) (.cells #[.int .i64 0, .int .i64 0, .string ⟨#[]⟩, .slice none 0 0, .slice none 0 0] 25))
            replace o2 := hid_f (off_alloc o2.out (.cells #[.int .i64 0, .int .i64 0, .string ⟨#[]⟩, .slice none 0 0, .slice none 0 0] 25))
            replace o5 := hid_f (off_alloc o5.out (.cells #[.int .i64 0, .int .i64 0, .string ⟨#[]⟩, .slice none 0 0, .slice none 0 0] 25))
            refine hK.out _ _ hT (fun _ => trivial) ?_
            clear hK K
            try simp only [Act.put, List.setIfInBounds_toArray, List.set_cons_zero, List.set_cons_succ]
            generalize A0ab.alloc (.cells #[.int .i64 0, .int .i64 0, .string ⟨#[]⟩, .slice none 0 0, .slice none 0 0] 25) = A0abd at hT n7 hz o2 o5 ⊢
            obtain ⟨g7, hq⟩ : ∃ g, A0ab.heap.size = g := ⟨_, rfl⟩
            rw [hq] at n7 l7 hz o2 o5
            rw [hq]
            clear hq
            have s7 : g7 < A0abd.heap.size := by omega
            clear hz
            refine Until.wpU_ready (rs := [6]) (by kernel_rfl) (by simp) ?_
            refine (Until.AllU.cons (o := { dst := some 3, op := Op.alloc 25, type := 0, pos := "law.go:137", after := #[], guard := none }) rfl (fun K hK => ?_) Until.AllU.nil)
            go_simp
            have n6 := heap_alloc_new A0abd (.cells #[.int .i64 0, .int .i64 0, .string ⟨#[]⟩, .slice none 0 0, .slice none 0 0] 25)
            have l6 := chg_lt hT
            have hz : (A0abd.alloc (.cells #[.int .i64 0, .int .i64 0, .string ⟨#[]⟩, .slice none 0 0, .slice none 0 0] 25)).heap.size = A0abd.heap.size + 1 := World.size_alloc _ _
            replace hT := hT.keep ((Below.refl _ A0abd).alloc (Nat.le_refl _) (.cells #[.int .i64 0, .int .i64 0, .string ⟨#[]⟩, .slice none 0 0, .slice none 0 0] 25))
            replace o2 := hid_f (off_alloc o2.out (.cells #[.int .i64 0, .int .i64 0, .string ⟨#[]⟩, .slice none 0 0, .slice none 0 0] 25))
            replace o5 := hid_f (off_alloc o5.out (.cells #[.int .i64 0, .int .i64 0, .string ⟨#[]⟩, .slice none 0 0, .slice none 0 0] 25))
            replace n7 := block_keep n7 ((Below.refl _ A0abd).alloc (Nat.le_refl _) (.cells #[.int .i64 0, .int .i64 0, .string ⟨#[]⟩, .slice none 0 0, .slice none 0 0] 25))
            refine hK.out _ _ hT (fun _ => trivial) ?_
            clear hK K
            try simp only [Act.put, List.setIfInBounds_toArray, List.set_cons_zero, List.set_cons_succ]
            generalize A0abd.alloc (.cells #[.int .i64 0, .int .i64 0, .string ⟨#[]⟩, .slice none 0 0, .slice none 0 0] 25) = A0abdc at hT n6 hz o2 o5 n7 ⊢
            obtain ⟨g6, hq⟩ : ∃ g, A0abd.heap.size = g := ⟨_, rfl⟩
            rw [hq] at n6 l6 hz o2 o5 s7
            rw [hq]
            clear hq
            have s6 : g6 < A0abdc.heap.size := by omega
            have hne : g6 ≠ g7 := by omega
            replace s7 : g7 < A0abdc.heap.size := by omega
            clear hz
            obtain ⟨z0, z1, z2, z3, z4, zf⟩ := row_cells n6
            have zf0 := zf 0; have zf1 := zf 1; have zf2 := zf 2; have zf3 := zf 3; have zf4 := zf 4
            clear zf
            refine Until.wpU_ready (rs := [8]) (by kernel_rfl) (by simp) ?_
            refine (Until.AllU.cons (o := { dst := none, op := Op.store 25 (Operand.tmp 3) (Operand.tmp 33), type := 0, pos := "law.go:137", after := #[{ on := 6, ground := Ground.data }, { on := 2, ground := Ground.data }, { on := 5, ground := Ground.chain }, { on := 0, ground := Ground.phase }, { on := 1, ground := Ground.phase }, { on := 2, ground := Ground.phase }, { on := 3, ground := Ground.textOnly Departure.lateStores }, { on := 4, ground := Ground.textOnly Departure.lateStores }, { on := 5, ground := Ground.textOnly Departure.lateStoresUnsure }, { on := 6, ground := Ground.phase }, { on := 7, ground := Ground.phase }], guard := none }) rfl (fun K hK => ?_) Until.AllU.nil)
            go_simp
            have hT8 := chg_put hT l6 (.int .i64 kv) (.int .i64 xv) (.string sv) (.slice anv lnv cnv) (.slice aiv liv civ)
            refine hK.out _ _ hT8 (fun _ => trivial) ?_
            clear hK K
            try simp only [Act.put, List.setIfInBounds_toArray, List.set_cons_zero, List.set_cons_succ]
            clear z0 z1 z2 z3 z4 zf0 zf1 zf2 zf3 zf4
            obtain ⟨z0, z1, z2, z3, z4, zf⟩ := row_cells n7
            have hne2 := Ne.symm hne
            have zf0 := zf 0; have zf1 := zf 1; have zf2 := zf 2; have zf3 := zf 3; have zf4 := zf 4
            clear zf
            obtain ⟨b6, b7⟩ := two_end n6 n7 hne o2.out o5.out (by simp) (by simp)
            replace b6 := hid_f b6
            replace b7 := hid_f b7
            refine Until.wpU_ready (rs := [9]) (by kernel_rfl) (by simp) ?_
            refine (Until.AllU.cons (o := { dst := none, op := Op.store 25 (Operand.tmp 4) (Operand.tmp 36), type := 0, pos := "law.go:137", after := #[{ on := 7, ground := Ground.data }, { on := 5, ground := Ground.data }, { on := 8, ground := Ground.chain }, { on := 0, ground := Ground.phase }, { on := 1, ground := Ground.phase }, { on := 2, ground := Ground.phase }, { on := 3, ground := Ground.phase }, { on := 4, ground := Ground.phase }, { on := 5, ground := Ground.phase }, { on := 6, ground := Ground.phase }, { on := 7, ground := Ground.phase }, { on := 8, ground := Ground.phase }], guard := none }) rfl (fun K hK => ?_) Until.AllU.nil)
            go_simp
            have hT9 := chg_put hT8 l7 (.int .i64 ky) (.int .i64 xy) (.string sy) (.slice any lny cny) (.slice aiy liy ciy)
            refine hK.out _ _ hT9 (fun _ => trivial) ?_
            clear hK K
            try simp only [Act.put, List.setIfInBounds_toArray, List.set_cons_zero, List.set_cons_succ]
            clear z0 z1 z2 z3 z4 zf0 zf1 zf2 zf3 zf4
            refine Until.wpU_done (by kernel_rfl) ?_ _
            refine NoPanic.normal ?_
            go_wp2_with fail
            go_meet
            exact ⟨_, _, _, _, _, _, _, _, _, _, _, _, _, _, _, _, _, _, _, _, rfl, rfl, hT9, b6, b7⟩
        · skip
          go_simp
          have n6 := heap_alloc_new A0a (.cells #[.int .i64 0, .int .i64 0, .string ⟨#[]⟩, .slice none 0 0, .slice none 0 0] 25)
          have l6 := chg_lt hT
          have hz : (A0a.alloc (.cells #[.int .i64 0, .int .i64 0, .string ⟨#[]⟩, .slice none 0 0, .slice none 0 0] 25)).heap.size = A0a.heap.size + 1 := World.size_alloc _ _
          replace hT := hT.keep ((Below.refl _ A0a).alloc (Nat.le_refl _) (.cells #[.int .i64 0, .int .i64 0, .string ⟨#[]⟩, .slice none 0 0, .slice none 0 0] 25))
          replace o2 := hid_f (off_alloc o2.out (.cells #[.int .i64 0, .int .i64 0, .string ⟨#[]⟩, .slice none 0 0, .slice none 0 0] 25))
          refine hK.out _ _ hT (fun _ => trivial) ?_
          clear hK K
          try simp only [Act.put, List.setIfInBounds_toArray, List.set_cons_zero, List.set_cons_succ]
          generalize A0a.alloc (.cells #[.int .i64 0, .int .i64 0, .string ⟨#[]⟩, .slice none 0 0, .slice none 0 0] 25) = A0ac at hT n6 hz o2 ⊢
          obtain ⟨g6, hq⟩ : ∃ g, A0a.heap.size = g := ⟨_, rfl⟩
          rw [hq] at n6 l6 hz o2
          rw [hq]
          clear hq
          have s6 : g6 < A0ac.heap.size := by omega
          clear hz
          refine Until.wpU_ready (rs := [5, 7]) (by kernel_rfl) (by simp) ?_
          refine (Until.AllU.cons (o := { dst := some 36, op := Op.call { callee := Callee.value (Operand.func 18), args := #[Operand.tmp 35], argTypes := #[25] }, type := 25, pos := "law.go:137", after := #[{ on := 4, ground := Ground.data }, { on := 2, ground := Ground.chain }], guard := none }) rfl (fun K hK => ?_) (Until.AllU.cons (o := { dst := some 4, op := Op.alloc 25, type := 0, pos := "law.go:137", after := #[], guard := none }) rfl (fun K hK => ?_) Until.AllU.nil))
          · skip
            go_simp
            refine (copyv_any X (five k2 x2 s2 (.slice an2 ln2 cn2) (.slice ai2 li2 ci2)) A0ac (VRep.keep hT.below _ _ hX.out) hsX.out).mono ?_
            rintro e A0acb ⟨ky, xy, sy, any, lny, cny, aiy, liy, ciy, rfl, hse, hb⟩
            replace hT := hT.keep hb
            replace o2 := hid_f (off_keep o2.out hb)
            replace n6 := block_keep n6 hb
            have o5 := hid_f (off_copy (l := [g6]) (by intro g hg; simp only [List.mem_cons, List.not_mem_nil, or_false] at hg; omega) hse)
            replace s6 := Nat.lt_of_lt_of_le s6 hb.size
            clear hse hb
            refine hK.out _ _ hT (fun _ => trivial) ?_
            clear hK K
            try simp only [Act.put, List.setIfInBounds_toArray, List.set_cons_zero, List.set_cons_succ]
            refine Until.wpU_ready (rs := [7]) (by kernel_rfl) (by simp) ?_
            refine (Until.AllU.cons (o := { dst := some 4, op := Op.alloc 25, type := 0, pos := "law.go:137", after := #[], guard := none }) rfl (fun K hK => ?_) Until.AllU.nil)
            go_simp
            have n7 := heap_alloc_new A0acb (.cells #[.int .i64 0, .int .i64 0, .string ⟨#[]⟩, .slice none 0 0, .slice none 0 0] 25)
            have l7 := chg_lt hT
            have hz : (A0acb.alloc (.cells #[.int .i64 0, .int .i64 0, .string ⟨#[]⟩, .slice none 0 0, .slice none 0 0] 25)).heap.size = A0acb.heap.size + 1 := World.size_alloc _ _
            replace hT := hT.keep ((Below.refl _ A0acb).alloc (Nat.le_refl _) (.cells #[.int .i64 0, .int .i64 0, .string ⟨#[]⟩, .slice none 0 0, .slice none 0 0] 25))
            replace o2 := hid_f (off_alloc o2.out (.cells #[.int .i64 0, .int .i64 0, .string ⟨#[]⟩, .slice none 0 0, .slice none 0 0] 25))
            replace n6 := block_keep n6 ((Below.refl _ A0acb).alloc (Nat.le_refl _) (.cells #[.int .i64 0, .int .i64 0, .string ⟨#[]⟩, .slice none 0 0, .slice none 0 0] 25))
            replace o5 := hid_f (off_alloc o5.out (.cells #[.int .i64 0, .int .i64 0, .string ⟨#[]⟩, .slice none 0 0, .slice none 0 0] 25))
            refine hK.out _ _ hT (fun _ => trivial) ?_
            clear hK K
            try simp only [Act.put, List.setIfInBounds_toArray, List.set_cons_zero, List.set_cons_succ]
            generalize A0acb.alloc (.cells #[.int .i64 0, .int .i64 0, .string ⟨#[]⟩, .slice none 0 0, .slice none 0 0] 25) = A0acbd at hT n7 hz o2 n6 o5 ⊢
            obtain ⟨g7, hq⟩ : ∃ g, A0acb.heap.size = g := ⟨_, rfl⟩
            rw [hq] at n7 l7 hz o2 o5 s6
            rw [hq]
            clear hq
            have s7 : g7 < A0acbd.heap.size := by omega
            have hne : g6 ≠ g7 := by omega
            replace s6 : g6 < A0acbd.heap.size := by omega
            clear hz
            obtain ⟨z0, z1, z2, z3, z4, zf⟩ := row_cells n6
            have zf0 := zf 0; have zf1 := zf 1; have zf2 := zf 2; have zf3 := zf 3; have zf4 := zf 4
            clear zf
            refine Until.wpU_ready (rs := [8]) (by kernel_rfl) (by simp) ?_
            refine (Until.AllU.cons (o := { dst := none, op := Op.store 25 (Operand.tmp 3) (Operand.tmp 33), type := 0, pos := "law.go:137", after := #[{ on := 6, ground := Ground.data }, { on := 2, ground := Ground.data }, { on := 5, ground := Ground.chain }, { on := 0, ground := Ground.phase }, { on := 1, ground := Ground.phase }, { on := 2, ground := Ground.phase }, { on := 3, ground := Ground.textOnly Departure.lateStores }, { on := 4, ground := Ground.textOnly Departure.lateStores }, { on := 5, ground := Ground.textOnly Departure.lateStoresUnsure }, { on := 6, ground := Ground.phase }, { on := 7, ground := Ground.phase }], guard := none }) rfl (fun K hK => ?_) Until.AllU.nil)
            go_simp
            have hT8 := chg_put hT l6 (.int .i64 kv) (.int .i64 xv) (.string sv) (.slice anv lnv cnv) (.slice aiv liv civ)
            refine hK.out _ _ hT8 (fun _ => trivial) ?_
            clear hK K
            try simp only [Act.put, List.setIfInBounds_toArray, List.set_cons_zero, List.set_cons_succ]
            clear z0 z1 z2 z3 z4 zf0 zf1 zf2 zf3 zf4
            obtain ⟨z0, z1, z2, z3, z4, zf⟩ := row_cells n7
            have hne2 := Ne.symm hne
            have zf0 := zf 0; have zf1 := zf 1; have zf2 := zf 2; have zf3 := zf 3; have zf4 := zf 4
            clear zf
            obtain ⟨b6, b7⟩ := two_end n6 n7 hne o2.out o5.out (by simp) (by simp)
            replace b6 := hid_f b6
            replace b7 := hid_f b7
            refine Until.wpU_ready (rs := [9]) (by kernel_rfl) (by simp) ?_
            refine (Until.AllU.cons (o := { dst := none, op := Op.store 25 (Operand.tmp 4) (Operand.tmp 36), type := 0, pos := "law.go:137", after := #[{ on := 7, ground := Ground.data }, { on := 5, ground := Ground.data }, { on := 8, ground := Ground.chain }, { on := 0, ground := Ground.phase }, { on := 1, ground := Ground.phase }, { on := 2, ground := Ground.phase }, { on := 3, ground := Ground.phase }, { on := 4, ground := Ground.phase }, { on := 5, ground := Ground.phase }, { on := 6, ground := Ground.phase }, { on := 7, ground := Ground.phase }, { on := 8, ground := Ground.phase }], guard := none }) rfl (fun K hK => ?_) Until.AllU.nil)
            go_simp
            have hT9 := chg_put hT8 l7 (.int .i64 ky) (.int .i64 xy) (.string sy) (.slice any lny cny) (.slice aiy liy ciy)
            refine hK.out _ _ hT9 (fun _ => trivial) ?_
            clear hK K
            try simp only [Act.put, List.setIfInBounds_toArray, List.set_cons_zero, List.set_cons_succ]
            clear z0 z1 z2 z3 z4 zf0 zf1 zf2 zf3 zf4
            refine Until.wpU_done (by kernel_rfl) ?_ _
            refine NoPanic.normal ?_
            go_wp2_with fail
            go_meet
            exact ⟨_, _, _, _, _, _, _, _, _, _, _, _, _, _, _, _, _, _, _, _, rfl, rfl, hT9, b6, b7⟩
          · skip
            go_simp
            have n7 := heap_alloc_new A0ac (.cells #[.int .i64 0, .int .i64 0, .string ⟨#[]⟩, .slice none 0 0, .slice none 0 0] 25)
            have l7 := chg_lt hT
            have hz : (A0ac.alloc (.cells #[.int .i64 0, .int .i64 0, .string ⟨#[]⟩, .slice none 0 0, .slice none 0 0] 25)).heap.size = A0ac.heap.size + 1 := World.size_alloc _ _
            replace hT := hT.keep ((Below.refl _ A0ac).alloc (Nat.le_refl _) (.cells #[.int .i64 0, .int .i64 0, .string ⟨#[]⟩, .slice none 0 0, .slice none 0 0] 25))
            replace o2 := hid_f (off_alloc o2.out (.cells #[.int .i64 0, .int .i64 0, .string ⟨#[]⟩, .slice none 0 0, .slice none 0 0] 25))
            replace n6 := block_keep n6 ((Below.refl _ A0ac).alloc (Nat.le_refl _) (.cells #[.int .i64 0, .int .i64 0, .string ⟨#[]⟩, .slice none 0 0, .slice none 0 0] 25))
            refine hK.out _ _ hT (fun _ => trivial) ?_
            clear hK K
            try simp only [Act.put, List.setIfInBounds_toArray, List.set_cons_zero, List.set_cons_succ]
            generalize A0ac.alloc (.cells #[.int .i64 0, .int .i64 0, .string ⟨#[]⟩, .slice none 0 0, .slice none 0 0] 25) = A0acd at hT n7 hz o2 n6 ⊢
            obtain ⟨g7, hq⟩ : ∃ g, A0ac.heap.size = g := ⟨_, rfl⟩
            rw [hq] at n7 l7 hz o2 s6
            rw [hq]
            clear hq
            have s7 : g7 < A0acd.heap.size := by omega
            have hne : g6 ≠ g7 := by omega
            replace s6 : g6 < A0acd.heap.size := by omega
            clear hz
            refine Until.wpU_ready (rs := [5]) (by kernel_rfl) (by simp) ?_
            refine (Until.AllU.cons (o := { dst := some 36, op := Op.call { callee := Callee.value (Operand.func 18), args := #[Operand.tmp 35], argTypes := #[25] }, type := 25, pos := "law.go:137", after := #[{ on := 4, ground := Ground.data }, { on := 2, ground := Ground.chain }], guard := none }) rfl (fun K hK => ?_) Until.AllU.nil)
            go_simp
            refine (copyv_any X (five k2 x2 s2 (.slice an2 ln2 cn2) (.slice ai2 li2 ci2)) A0acd (VRep.keep hT.below _ _ hX.out) hsX.out).mono ?_
            rintro e A0acdb ⟨ky, xy, sy, any, lny, cny, aiy, liy, ciy, rfl, hse, hb⟩
            replace hT := hT.keep hb
            replace o2 := hid_f (off_keep o2.out hb)
            replace n6 := block_keep n6 hb
            replace n7 := block_keep n7 hb
            have o5 := hid_f (off_copy (l := [g7, g6]) (by intro g hg; simp only [List.mem_cons, List.not_mem_nil, or_false] at hg; omega) hse)
            replace s6 := Nat.lt_of_lt_of_le s6 hb.size
            replace s7 := Nat.lt_of_lt_of_le s7 hb.size
            clear hse hb
            refine hK.out _ _ hT (fun _ => trivial) ?_
            clear hK K
            try simp only [Act.put, List.setIfInBounds_toArray, List.set_cons_zero, List.set_cons_succ]
            obtain ⟨z0, z1, z2, z3, z4, zf⟩ := row_cells n6
            have zf0 := zf 0; have zf1 := zf 1; have zf2 := zf 2; have zf3 := zf 3; have zf4 := zf 4
            clear zf
            refine Until.wpU_ready (rs := [8]) (by kernel_rfl) (by simp) ?_
            refine (Until.AllU.cons (o := { dst := none, op := Op.store 25 (Operand.tmp 3) (Operand.tmp 33), type := 0, pos := "law.go:137", after := #[{ on := 6, ground := Ground.data }, { on := 2, ground := Ground.data }, { on := 5, ground := Ground.chain }, { on := 0, ground := Ground.phase }, { on := 1, ground := Ground.phase }, { on := 2, ground := Ground.phase }, { on := 3, ground := Ground.textOnly Departure.lateStores }, { on := 4, ground := Ground.textOnly Departure.lateStores }, { on := 5, ground := Ground.textOnly Departure.lateStoresUnsure }, { on := 6, ground := Ground.phase }, { on := 7, ground := Ground.phase }], guard := none }) rfl (fun K hK => ?_) Until.AllU.nil)
            go_simp
            have hT8 := chg_put hT l6 (.int .i64 kv) (.int .i64 xv) (.string sv) (.slice anv lnv cnv) (.slice aiv liv civ)
            refine hK.out _ _ hT8 (fun _ => trivial) ?_
            clear hK K
            try simp only [Act.put, List.setIfInBounds_toArray, List.set_cons_zero, List.set_cons_succ]
            clear z0 z1 z2 z3 z4 zf0 zf1 zf2 zf3 zf4
            obtain ⟨z0, z1, z2, z3, z4, zf⟩ := row_cells n7
            have hne2 := Ne.symm hne
            have zf0 := zf 0; have zf1 := zf 1; have zf2 := zf 2; have zf3 := zf 3; have zf4 := zf 4
            clear zf
            obtain ⟨b6, b7⟩ := two_end n6 n7 hne o2.out o5.out (by simp) (by simp)
            replace b6 := hid_f b6
            replace b7 := hid_f b7
            refine Until.wpU_ready (rs := [9]) (by kernel_rfl) (by simp) ?_
            refine (Until.AllU.cons (o := { dst := none, op := Op.store 25 (Operand.tmp 4) (Operand.tmp 36), type := 0, pos := "law.go:137", after := #[{ on := 7, ground := Ground.data }, { on := 5, ground := Ground.data }, { on := 8, ground := Ground.chain }, { on := 0, ground := Ground.phase }, { on := 1, ground := Ground.phase }, { on := 2, ground := Ground.phase }, { on := 3, ground := Ground.phase }, { on := 4, ground := Ground.phase }, { on := 5, ground := Ground.phase }, { on := 6, ground := Ground.phase }, { on := 7, ground := Ground.phase }, { on := 8, ground := Ground.phase }], guard := none }) rfl (fun K hK => ?_) Until.AllU.nil)
            go_simp
            have hT9 := chg_put hT8 l7 (.int .i64 ky) (.int .i64 xy) (.string sy) (.slice any lny cny) (.slice aiy liy ciy)
            refine hK.out _ _ hT9 (fun _ => trivial) ?_
            clear hK K
            try simp only [Act.put, List.setIfInBounds_toArray, List.set_cons_zero, List.set_cons_succ]
            clear z0 z1 z2 z3 z4 zf0 zf1 zf2 zf3 zf4
            refine Until.wpU_done (by kernel_rfl) ?_ _
            refine NoPanic.normal ?_
            go_wp2_with fail
            go_meet
            exact ⟨_, _, _, _, _, _, _, _, _, _, _, _, _, _, _, _, _, _, _, _, rfl, rfl, hT9, b6, b7⟩
        · skip
          go_simp
          have n7 := heap_alloc_new A0a (.cells #[.int .i64 0, .int .i64 0, .string ⟨#[]⟩, .slice none 0 0, .slice none 0 0] 25)
          have l7 := chg_lt hT
          have hz : (A0a.alloc (.cells #[.int .i64 0, .int .i64 0, .string ⟨#[]⟩, .slice none 0 0, .slice none 0 0] 25)).heap.size = A0a.heap.size + 1 := World.size_alloc _ _
          replace hT := hT.keep ((Below.refl _ A0a).alloc (Nat.le_refl _) (.cells #[.int .i64 0, .int .i64 0, .string ⟨#[]⟩, .slice none 0 0, .slice none 0 0] 25))
          replace o2 := hid_f (off_alloc o2.out (.cells #[.int .i64 0, .int .i64 0, .string ⟨#[]⟩, .slice none 0 0, .slice none 0 0] 25))
          refine hK.out _ _ hT (fun _ => trivial) ?_
          clear hK K
          try simp only [Act.put, List.setIfInBounds_toArray, List.set_cons_zero, List.set_cons_succ]
          generalize A0a.alloc (.cells #[.int .i64 0, .int .i64 0, .string ⟨#[]⟩, .slice none 0 0, .slice none 0 0] 25) = A0ad at hT n7 hz o2 ⊢
          obtain ⟨g7, hq⟩ : ∃ g, A0a.heap.size = g := ⟨_, rfl⟩
          rw [hq] at n7 l7 hz o2
          rw [hq]
          clear hq
          have s7 : g7 < A0ad.heap.size := by omega
          clear hz
          refine Until.wpU_ready (rs := [5, 6]) (by kernel_rfl) (by simp) ?_
          refine (Until.AllU.cons (o := { dst := some 36, op := Op.call { callee := Callee.value (Operand.func 18), args := #[Operand.tmp 35], argTypes := #[25] }, type := 25, pos := "law.go:137", after := #[{ on := 4, ground := Ground.data }, { on := 2, ground := Ground.chain }], guard := none }) rfl (fun K hK => ?_) (Until.AllU.cons (o := { dst := some 3, op := Op.alloc 25, type := 0, pos := "law.go:137", after := #[], guard := none }) rfl (fun K hK => ?_) Until.AllU.nil))
          · skip
            go_simp
            refine (copyv_any X (five k2 x2 s2 (.slice an2 ln2 cn2) (.slice ai2 li2 ci2)) A0ad (VRep.keep hT.below _ _ hX.out) hsX.out).mono ?_
            rintro e A0adb ⟨ky, xy, sy, any, lny, cny, aiy, liy, ciy, rfl, hse, hb⟩
            replace hT := hT.keep hb
            replace o2 := hid_f (off_keep o2.out hb)
            replace n7 := block_keep n7 hb
            have o5 := hid_f (off_copy (l := [g7]) (by intro g hg; simp only [List.mem_cons, List.not_mem_nil, or_false] at hg; omega) hse)
            replace s7 := Nat.lt_of_lt_of_le s7 hb.size
            clear hse hb
            refine hK.out _ _ hT (fun _ => trivial) ?_
            clear hK K
            try simp only [Act.put, List.setIfInBounds_toArray, List.set_cons_zero, List.set_cons_succ]
            refine Until.wpU_ready (rs := [6]) (by kernel_rfl) (by simp) ?_
            refine (Until.AllU.cons (o := { dst := some 3, op := Op.alloc 25, type := 0, pos := "law.go:137", after := #[], guard := none }) rfl (fun K hK => ?_) Until.AllU.nil)
            go_simp
            have n6 := heap_alloc_new A0adb (.cells #[.int .i64 0, .int .i64 0, .string ⟨#[]⟩, .slice none 0 0, .slice none 0 0] 25)
            have l6 := chg_lt hT
            have hz : (A0adb.alloc (.cells #[.int .i64 0, .int .i64 0, .string ⟨#[]⟩, .slice none 0 0, .slice none 0 0] 25)).heap.size = A0adb.heap.size + 1 := World.size_alloc _ _
            replace hT := hT.keep ((Below.refl _ A0adb).alloc (Nat.le_refl _) (.cells #[.int .i64 0, .int .i64 0, .string ⟨#[]⟩, .slice none 0 0, .slice none 0 0] 25))
            replace o2 := hid_f (off_alloc o2.out (.cells #[.int .i64 0, .int .i64 0, .string ⟨#[]⟩, .slice none 0 0, .slice none 0 0] 25))
            replace n7 := block_keep n7 ((Below.refl _ A0adb).alloc (Nat.le_refl _) (.cells #[.int .i64 0, .int .i64 0, .string ⟨#[]⟩, .slice none 0 0, .slice none 0 0] 25))
            replace o5 := hid_f (off_alloc o5.out (.cells #[.int .i64 0, .int .i64 0, .string ⟨#[]⟩, .slice none 0 0, .slice none 0 0] 25))
            refine hK.out _ _ hT (fun _ => trivial) ?_
            clear hK K
            try simp only [Act.put, List.setIfInBounds_toArray, List.set_cons_zero, List.set_cons_succ]
            generalize A0adb.alloc (.cells #[.int .i64 0, .int .i64 0, .string ⟨#[]⟩, .slice none 0 0, .slice none 0 0] 25) = A0adbc at hT n6 hz o2 n7 o5 ⊢
            obtain ⟨g6, hq⟩ : ∃ g, A0adb.heap.size = g := ⟨_, rfl⟩
            rw [hq] at n6 l6 hz o2 o5 s7
            rw [hq]
            clear hq
            have s6 : g6 < A0adbc.heap.size := by omega
            have hne : g6 ≠ g7 := by omega
            replace s7 : g7 < A0adbc.heap.size := by omega
            clear hz
            obtain ⟨z0, z1, z2, z3, z4, zf⟩ := row_cells n6
            have zf0 := zf 0; have zf1 := zf 1; have zf2 := zf 2; have zf3 := zf 3; have zf4 := zf 4
            clear zf
            refine Until.wpU_ready (rs := [8]) (by kernel_rfl) (by simp) ?_
            refine (Until.AllU.cons (o := { dst := none, op := Op.store 25 (Operand.tmp 3) (Operand.tmp 33), type := 0, pos := "law.go:137", after := #[{ on := 6, ground := Ground.data }, { on := 2, ground := Ground.data }, { on := 5, ground := Ground.chain }, { on := 0, ground := Ground.phase }, { on := 1, ground := Ground.phase }, { on := 2, ground := Ground.phase }, { on := 3, ground := Ground.textOnly Departure.lateStores }, { on := 4, ground := Ground.textOnly Departure.lateStores }, { on := 5, ground := Ground.textOnly Departure.lateStoresUnsure }, { on := 6, ground := Ground.phase }, { on := 7, ground := Ground.phase }], guard := none }) rfl (fun K hK => ?_) Until.AllU.nil)
            go_simp
            have hT8 := chg_put hT l6 (.int .i64 kv) (.int .i64 xv) (.string sv) (.slice anv lnv cnv) (.slice aiv liv civ)
            refine hK.out _ _ hT8 (fun _ => trivial) ?_
            clear hK K
            try simp only [Act.put, List.setIfInBounds_toArray, List.set_cons_zero, List.set_cons_succ]
            clear z0 z1 z2 z3 z4 zf0 zf1 zf2 zf3 zf4
            obtain ⟨z0, z1, z2, z3, z4, zf⟩ := row_cells n7
            have hne2 := Ne.symm hne
            have zf0 := zf 0; have zf1 := zf 1; have zf2 := zf 2; have zf3 := zf 3; have zf4 := zf 4
            clear zf
            obtain ⟨b6, b7⟩ := two_end n6 n7 hne o2.out o5.out (by simp) (by simp)
            replace b6 := hid_f b6
            replace b7 := hid_f b7
            refine Until.wpU_ready (rs := [9]) (by kernel_rfl) (by simp) ?_
            refine (Until.AllU.cons (o := { dst := none, op := Op.store 25 (Operand.tmp 4) (Operand.tmp 36), type := 0, pos := "law.go:137", after := #[{ on := 7, ground := Ground.data }, { on := 5, ground := Ground.data }, { on := 8, ground := Ground.chain }, { on := 0, ground := Ground.phase }, { on := 1, ground := Ground.phase }, { on := 2, ground := Ground.phase }, { on := 3, ground := Ground.phase }, { on := 4, ground := Ground.phase }, { on := 5, ground := Ground.phase }, { on := 6, ground := Ground.phase }, { on := 7, ground := Ground.phase }, { on := 8, ground := Ground.phase }], guard := none }) rfl (fun K hK => ?_) Until.AllU.nil)
            go_simp
            have hT9 := chg_put hT8 l7 (.int .i64 ky) (.int .i64 xy) (.string sy) (.slice any lny cny) (.slice aiy liy ciy)
            refine hK.out _ _ hT9 (fun _ => trivial) ?_
            clear hK K
            try simp only [Act.put, List.setIfInBounds_toArray, List.set_cons_zero, List.set_cons_succ]
            clear z0 z1 z2 z3 z4 zf0 zf1 zf2 zf3 zf4
            refine Until.wpU_done (by kernel_rfl) ?_ _
            refine NoPanic.normal ?_
            go_wp2_with fail
            go_meet
            exact ⟨_, _, _, _, _, _, _, _, _, _, _, _, _, _, _, _, _, _, _, _, rfl, rfl, hT9, b6, b7⟩
          · skip
            go_simp
            have n6 := heap_alloc_new A0ad (.cells #[.int .i64 0, .int .i64 0, .string ⟨#[]⟩, .slice none 0 0, .slice none 0 0] 25)
            have l6 := chg_lt hT
            have hz : (A0ad.alloc (.cells #[.int .i64 0, .int .i64 0, .string ⟨#[]⟩, .slice none 0 0, .slice none 0 0] 25)).heap.size = A0ad.heap.size + 1 := World.size_alloc _ _
            replace hT := hT.keep ((Below.refl _ A0ad).alloc (Nat.le_refl _) (.cells #[.int .i64 0, .int .i64 0, .string ⟨#[]⟩, .slice none 0 0, .slice none 0 0] 25))
            replace o2 := hid_f (off_alloc o2.out (.cells #[.int .i64 0, .int .i64 0, .string ⟨#[]⟩, .slice none 0 0, .slice none 0 0] 25))
            replace n7 := block_keep n7 ((Below.refl _ A0ad).alloc (Nat.le_refl _) (.cells #[.int .i64 0, .int .i64 0, .string ⟨#[]⟩, .slice none 0 0, .slice none 0 0] 25))
            refine hK.out _ _ hT (fun _ => trivial) ?_
            clear hK K
            try simp only [Act.put, List.setIfInBounds_toArray, List.set_cons_zero, List.set_cons_succ]
            generalize A0ad.alloc (.cells #[.int .i64 0, .int .i64 0, .string ⟨#[]⟩, .slice none 0 0, .slice none 0 0] 25) = A0adc at hT n6 hz o2 n7 ⊢
            obtain ⟨g6, hq⟩ : ∃ g, A0ad.heap.size = g := ⟨_, rfl⟩
            rw [hq] at n6 l6 hz o2 s7
            rw [hq]
            clear hq
            have s6 : g6 < A0adc.heap.size := by omega
            have hne : g6 ≠ g7 := by omega
            replace s7 : g7 < A0adc.heap.size := by omega
            clear hz
            refine Until.wpU_ready (rs := [5]) (by kernel_rfl) (by simp) ?_
            refine (Until.AllU.cons (o := { dst := some 36, op := Op.call { callee := Callee.value (Operand.func 18), args := #[Operand.tmp 35], argTypes := #[25] }, type := 25, pos := "law.go:137", after := #[{ on := 4, ground := Ground.data }, { on := 2, ground := Ground.chain }], guard := none }) rfl (fun K hK => ?_) Until.AllU.nil)
            go_simp
            refine (copyv_any X (five k2 x2 s2 (.slice an2 ln2 cn2) (.slice ai2 li2 ci2)) A0adc (VRep.keep hT.below _ _ hX.out) hsX.out).mono ?_
            rintro e A0adcb ⟨ky, xy, sy, any, lny, cny, aiy, liy, ciy, rfl, hse, hb⟩
            replace hT := hT.keep hb
            replace o2 := hid_f (off_keep o2.out hb)
            replace n7 := block_keep n7 hb
            replace n6 := block_keep n6 hb
            have o5 := hid_f (off_copy (l := [g6, g7]) (by intro g hg; simp only [List.mem_cons, List.not_mem_nil, or_false] at hg; omega) hse)
            replace s7 := Nat.lt_of_lt_of_le s7 hb.size
            replace s6 := Nat.lt_of_lt_of_le s6 hb.size
            clear hse hb
            refine hK.out _ _ hT (fun _ => trivial) ?_
            clear hK K
            try simp only [Act.put, List.setIfInBounds_toArray, List.set_cons_zero, List.set_cons_succ]
            obtain ⟨z0, z1, z2, z3, z4, zf⟩ := row_cells n6
            have zf0 := zf 0; have zf1 := zf 1; have zf2 := zf 2; have zf3 := zf 3; have zf4 := zf 4
            clear zf
            refine Until.wpU_ready (rs := [8]) (by kernel_rfl) (by simp) ?_
            refine (Until.AllU.cons (o := { dst := none, op := Op.store 25 (Operand.tmp 3) (Operand.tmp 33), type := 0, pos := "law.go:137", after := #[{ on := 6, ground := Ground.data }, { on := 2, ground := Ground.data }, { on := 5, ground := Ground.chain }, { on := 0, ground := Ground.phase }, { on := 1, ground := Ground.phase }, { on := 2, ground := Ground.phase }, { on := 3, ground := Ground.textOnly Departure.lateStores }, { on := 4, ground := Ground.textOnly Departure.lateStores }, { on := 5, ground := Ground.textOnly Departure.lateStoresUnsure }, { on := 6, ground := Ground.phase }, { on := 7, ground := Ground.phase }], guard := none }) rfl (fun K hK => ?_) Until.AllU.nil)
            go_simp
            have hT8 := chg_put hT l6 (.int .i64 kv) (.int .i64 xv) (.string sv) (.slice anv lnv cnv) (.slice aiv liv civ)
            refine hK.out _ _ hT8 (fun _ => trivial) ?_
            clear hK K
            try simp only [Act.put, List.setIfInBounds_toArray, List.set_cons_zero, List.set_cons_succ]
            clear z0 z1 z2 z3 z4 zf0 zf1 zf2 zf3 zf4
            obtain ⟨z0, z1, z2, z3, z4, zf⟩ := row_cells n7
            have hne2 := Ne.symm hne
            have zf0 := zf 0; have zf1 := zf 1; have zf2 := zf 2; have zf3 := zf 3; have zf4 := zf 4
            clear zf
            obtain ⟨b6, b7⟩ := two_end n6 n7 hne o2.out o5.out (by simp) (by simp)
            replace b6 := hid_f b6
            replace b7 := hid_f b7
            refine Until.wpU_ready (rs := [9]) (by kernel_rfl) (by simp) ?_
            refine (Until.AllU.cons (o := { dst := none, op := Op.store 25 (Operand.tmp 4) (Operand.tmp 36), type := 0, pos := "law.go:137", after := #[{ on := 7, ground := Ground.data }, { on := 5, ground := Ground.data }, { on := 8, ground := Ground.chain }, { on := 0, ground := Ground.phase }, { on := 1, ground := Ground.phase }, { on := 2, ground := Ground.phase }, { on := 3, ground := Ground.phase }, { on := 4, ground := Ground.phase }, { on := 5, ground := Ground.phase }, { on := 6, ground := Ground.phase }, { on := 7, ground := Ground.phase }, { on := 8, ground := Ground.phase }], guard := none }) rfl (fun K hK => ?_) Until.AllU.nil)
            go_simp
            have hT9 := chg_put hT8 l7 (.int .i64 ky) (.int .i64 xy) (.string sy) (.slice any lny cny) (.slice aiy liy ciy)
            refine hK.out _ _ hT9 (fun _ => trivial) ?_
            clear hK K
            try simp only [Act.put, List.setIfInBounds_toArray, List.set_cons_zero, List.set_cons_succ]
            clear z0 z1 z2 z3 z4 zf0 zf1 zf2 zf3 zf4
            refine Until.wpU_done (by kernel_rfl) ?_ _
            refine NoPanic.normal ?_
            go_wp2_with fail
            go_meet
            exact ⟨_, _, _, _, _, _, _, _, _, _, _, _, _, _, _, _, _, _, _, _, rfl, rfl, hT9, b6, b7⟩
      · skip
        go_simp
        have n6 := heap_alloc_new A0 (.cells #[.int .i64 0, .int .i64 0, .string ⟨#[]⟩, .slice none 0 0, .slice none 0 0] 25)
        have l6 := chg_lt hT
        have hz : (A0.alloc (.cells #[.int .i64 0, .int .i64 0, .string ⟨#[]⟩, .slice none 0 0, .slice none 0 0] 25)).heap.size = A0.heap.size + 1 := World.size_alloc _ _
        replace hT := hT.keep ((Below.refl _ A0).alloc (Nat.le_refl _) (.cells #[.int .i64 0, .int .i64 0, .string ⟨#[]⟩, .slice none 0 0, .slice none 0 0] 25))
        refine hK.out _ _ hT (fun _ => trivial) ?_
        clear hK K
        try simp only [Act.put, List.setIfInBounds_toArray, List.set_cons_zero, List.set_cons_succ]
        generalize A0.alloc (.cells #[.int .i64 0, .int .i64 0, .string ⟨#[]⟩, .slice none 0 0, .slice none 0 0] 25) = A0c at hT n6 hz ⊢
        obtain ⟨g6, hq⟩ : ∃ g, A0.heap.size = g := ⟨_, rfl⟩
        rw [hq] at n6 l6 hz
        rw [hq]
        clear hq
        have s6 : g6 < A0c.heap.size := by omega
        clear hz
        refine Until.wpU_ready (rs := [2, 7]) (by kernel_rfl) (by simp) ?_
        refine (Until.AllU.cons (o := { dst := some 33, op := Op.call { callee := Callee.value (Operand.func 18), args := #[Operand.tmp 32], argTypes := #[25] }, type := 25, pos := "law.go:137", after := #[{ on := 1, ground := Ground.data }], guard := none }) rfl (fun K hK => ?_) (Until.AllU.cons (o := { dst := some 4, op := Op.alloc 25, type := 0, pos := "law.go:137", after := #[], guard := none }) rfl (fun K hK => ?_) Until.AllU.nil))
        · skip
          go_simp
          refine (copyv_any V (five k1 x1 s1 (.slice an1 ln1 cn1) (.slice ai1 li1 ci1)) A0c (VRep.keep hT.below _ _ hV.out) hsV.out).mono ?_
          rintro e A0ca ⟨kv, xv, sv, anv, lnv, cnv, aiv, liv, civ, rfl, hse, hb⟩
          replace hT := hT.keep hb
          replace n6 := block_keep n6 hb
          have o2 := hid_f (off_copy (l := [g6]) (by intro g hg; simp only [List.mem_cons, List.not_mem_nil, or_false] at hg; omega) hse)
          replace s6 := Nat.lt_of_lt_of_le s6 hb.size
          clear hse hb
          refine hK.out _ _ hT (fun _ => trivial) ?_
          clear hK K
          try simp only [Act.put, List.setIfInBounds_toArray, List.set_cons_zero, List.set_cons_succ]
          refine Until.wpU_ready (rs := [5, 7]) (by kernel_rfl) (by simp) ?_
          refine (Until.AllU.cons (o := { dst := some 36, op := Op.call { callee := Callee.value (Operand.func 18), args := #[Operand.tmp 35], argTypes := #[25] }, type := 25, pos := "law.go:137", after := #[{ on := 4, ground := Ground.data }, { on := 2, ground := Ground.chain }], guard := none }) rfl (fun K hK => ?_) (Until.AllU.cons (o := { dst := some 4, op := Op.alloc 25, type := 0, pos := "law.go:137", after := #[], guard := none }) rfl (fun K hK => ?_) Until.AllU.nil))
          · skip
            go_simp
            refine (copyv_any X (five k2 x2 s2 (.slice an2 ln2 cn2) (.slice ai2 li2 ci2)) A0ca (VRep.keep hT.below _ _ hX.out) hsX.out).mono ?_
            rintro e A0cab ⟨ky, xy, sy, any, lny, cny, aiy, liy, ciy, rfl, hse, hb⟩
            replace hT := hT.keep hb
            replace n6 := block_keep n6 hb
            replace o2 := hid_f (off_keep o2.out hb)
            have o5 := hid_f (off_copy (l := [g6]) (by intro g hg; simp only [List.mem_cons, List.not_mem_nil, or_false] at hg; omega) hse)
            replace s6 := Nat.lt_of_lt_of_le s6 hb.size
            clear hse hb
            refine hK.out _ _ hT (fun _ => trivial) ?_
            clear hK K
            try simp only [Act.put, List.setIfInBounds_toArray, List.set_cons_zero, List.set_cons_succ]
            refine Until.wpU_ready (rs := [7]) (by kernel_rfl) (by simp) ?_
            refine (Until.AllU.cons (o := { dst := some 4, op := Op.alloc 25, type := 0, pos := "law.go:137", after := #[], guard := none }) rfl (fun K hK => ?_) Until.AllU.nil)
            go_simp
            have n7 := heap_alloc_new A0cab (.cells #[.int .i64 0, .int .i64 0, .string ⟨#[]⟩, .slice none 0 0, .slice none 0 0] 25)
            have l7 := chg_lt hT
            have hz : (A0cab.alloc (.cells #[.int .i64 0, .int .i64 0, .string ⟨#[]⟩, .slice none 0 0, .slice none 0 0] 25)).heap.size = A0cab.heap.size + 1 := World.size_alloc _ _
            replace hT := hT.keep ((Below.refl _ A0cab).alloc (Nat.le_refl _) (.cells #[.int .i64 0, .int .i64 0, .string ⟨#[]⟩, .slice none 0 0, .slice none 0 0] 25))
            replace n6 := block_keep n6 ((Below.refl _ A0cab).alloc (Nat.le_refl _) (.cells #[.int .i64 0, .int .i64 0, .string ⟨#[]⟩, .slice none 0 0, .slice none 0 0] 25))
            replace o2 := hid_f (off_alloc o2.out (.cells #[.int .i64 0, .int .i64 0, .string ⟨#[]⟩, .slice none 0 0, .slice none 0 0] 25))
            replace o5 := hid_f (off_alloc o5.out (.cells #[.int .i64 0, .int .i64 0, .string ⟨#[]⟩, .slice none 0 0, .slice none 0 0] 25))
            refine hK.out _ _ hT (fun _ => trivial) ?_
            clear hK K
            try simp only [Act.put, List.setIfInBounds_toArray, List.set_cons_zero, List.set_cons_succ]
            generalize A0cab.alloc (.cells #[.int .i64 0, .int .i64 0, .string ⟨#[]⟩, .slice none 0 0, .slice none 0 0] 25) = A0cabd at hT n7 hz n6 o2 o5 ⊢
            obtain ⟨g7, hq⟩ : ∃ g, A0cab.heap.size = g := ⟨_, rfl⟩
            rw [hq] at n7 l7 hz o2 o5 s6
            rw [hq]
            clear hq
            have s7 : g7 < A0cabd.heap.size := by omega
            have hne : g6 ≠ g7 := by omega
            replace s6 : g6 < A0cabd.heap.size := by omega
            clear hz
            obtain ⟨z0, z1, z2, z3, z4, zf⟩ := row_cells n6
            have zf0 := zf 0; have zf1 := zf 1; have zf2 := zf 2; have zf3 := zf 3; have zf4 := zf 4
            clear zf
            refine Until.wpU_ready (rs := [8]) (by kernel_rfl) (by simp) ?_
            refine (Until.AllU.cons (o := { dst := none, op := Op.store 25 (Operand.tmp 3) (Operand.tmp 33), type := 0, pos := "law.go:137", after := #[{ on := 6, ground := Ground.data }, { on := 2, ground := Ground.data }, { on := 5, ground := Ground.chain }, { on := 0, ground := Ground.phase }, { on := 1, ground := Ground.phase }, { on := 2, ground := Ground.phase }, { on := 3, ground := Ground.textOnly Departure.lateStores }, { on := 4, ground := Ground.textOnly Departure.lateStores }, { on := 5, ground := Ground.textOnly Departure.lateStoresUnsure }, { on := 6, ground := Ground.phase }, { on := 7, ground := Ground.phase }], guard := none }) rfl (fun K hK => ?_) Until.AllU.nil)
            go_simp
            have hT8 := chg_put hT l6 (.int .i64 kv) (.int .i64 xv) (.string sv) (.slice anv lnv cnv) (.slice aiv liv civ)
            refine hK.out _ _ hT8 (fun _ => trivial) ?_
            clear hK K
            try simp only [Act.put, List.setIfInBounds_toArray, List.set_cons_zero, List.set_cons_succ]
            clear z0 z1 z2 z3 z4 zf0 zf1 zf2 zf3 zf4
            obtain ⟨z0, z1, z2, z3, z4, zf⟩ := row_cells n7
            have hne2 := Ne.symm hne
            have zf0 := zf 0; have zf1 := zf 1; have zf2 := zf 2; have zf3 := zf 3; have zf4 := zf 4
            clear zf
            obtain ⟨b6, b7⟩ := two_end n6 n7 hne o2.out o5.out (by simp) (by simp)
            replace b6 := hid_f b6
            replace b7 := hid_f b7
            refine Until.wpU_ready (rs := [9]) (by kernel_rfl) (by simp) ?_
            refine (Until.AllU.cons (o := { dst := none, op := Op.store 25 (Operand.tmp 4) (Operand.tmp 36), type := 0, pos := "law.go:137", after := #[{ on := 7, ground := Ground.data }, { on := 5, ground := Ground.data }, { on := 8, ground := Ground.chain }, { on := 0, ground := Ground.phase }, { on := 1, ground := Ground.phase }, { on := 2, ground := Ground.phase }, { on := 3, ground := Ground.phase }, { on := 4, ground := Ground.phase }, { on := 5, ground := Ground.phase }, { on := 6, ground := Ground.phase }, { on := 7, ground := Ground.phase }, { on := 8, ground := Ground.phase }], guard := none }) rfl (fun K hK => ?_) Until.AllU.nil)
            go_simp
            have hT9 := chg_put hT8 l7 (.int .i64 ky) (.int .i64 xy) (.string sy) (.slice any lny cny) (.slice aiy liy ciy)
            refine hK.out _ _ hT9 (fun _ => trivial) ?_
            clear hK K
            try simp only [Act.put, List.setIfInBounds_toArray, List.set_cons_zero, List.set_cons_succ]
            clear z0 z1 z2 z3 z4 zf0 zf1 zf2 zf3 zf4
            refine Until.wpU_done (by kernel_rfl) ?_ _
            refine NoPanic.normal ?_
            go_wp2_with fail
            go_meet
            exact ⟨_, _, _, _, _, _, _, _, _, _, _, _, _, _, _, _, _, _, _, _, rfl, rfl, hT9, b6, b7⟩
          · skip
            go_simp
            have n7 := heap_alloc_new A0ca (.cells #[.int .i64 0, .int .i64 0, .string ⟨#[]⟩, .slice none 0 0, .slice none 0 0] 25)
            have l7 := chg_lt hT
            have hz : (A0ca.alloc (.cells #[.int .i64 0, .int .i64 0, .string ⟨#[]⟩, .slice none 0 0, .slice none 0 0] 25)).heap.size = A0ca.heap.size + 1 := World.size_alloc _ _
            replace hT := hT.keep ((Below.refl _ A0ca).alloc (Nat.le_refl _) (.cells #[.int .i64 0, .int .i64 0, .string ⟨#[]⟩, .slice none 0 0, .slice none 0 0] 25))
            replace n6 := block_keep n6 ((Below.refl _ A0ca).alloc (Nat.le_refl _) (.cells #[.int .i64 0, .int .i64 0, .string ⟨#[]⟩, .slice none 0 0, .slice none 0 0] 25))
            replace o2 := hid_f (off_alloc o2.out (.cells #[.int .i64 0, .int .i64 0, .string ⟨#[]⟩, .slice none 0 0, .slice none 0 0] 25))
            refine hK.out _ _ hT (fun _ => trivial) ?_
            clear hK K
            try simp only [Act.put, List.setIfInBounds_toArray, List.set_cons_zero, List.set_cons_succ]
            generalize A0ca.alloc (.cells #[.int .i64 0, .int .i64 0, .string ⟨#[]⟩, .slice none 0 0, .slice none 0 0] 25) = A0cad at hT n7 hz n6 o2 ⊢
            obtain ⟨g7, hq⟩ : ∃ g, A0ca.heap.size = g := ⟨_, rfl⟩
            rw [hq] at n7 l7 hz o2 s6
            rw [hq]
            clear hq
            have s7 : g7 < A0cad.heap.size := by omega
            have hne : g6 ≠ g7 := by omega
            replace s6 : g6 < A0cad.heap.size := by omega
            clear hz
            refine Until.wpU_ready (rs := [5]) (by kernel_rfl) (by simp) ?_
            refine (Until.AllU.cons (o := { dst := some 36, op := Op.call { callee := Callee.value (Operand.func 18), args := #[Operand.tmp 35], argTypes := #[25] }, type := 25, pos := "law.go:137", after := #[{ on := 4, ground := Ground.data }, { on := 2, ground := Ground.chain }], guard := none }) rfl (fun K hK => ?_) Until.AllU.nil)
            go_simp
            refine (copyv_any X (five k2 x2 s2 (.slice an2 ln2 cn2) (.slice ai2 li2 ci2)) A0cad (VRep.keep hT.below _ _ hX.out) hsX.out).mono ?_
            rintro e A0cadb ⟨ky, xy, sy, any, lny, cny, aiy, liy, ciy, rfl, hse, hb⟩
            replace hT := hT.keep hb
            replace n6 := block_keep n6 hb
            replace o2 := hid_f (off_keep o2.out hb)
            replace n7 := block_keep n7 hb
            have o5 := hid_f (off_copy (l := [g7, g6]) (by intro g hg; simp only [List.mem_cons, List.not_mem_nil, or_false] at hg; omega) hse)
            replace s6 := Nat.lt_of_lt_of_le s6 hb.size
            replace s7 := Nat.lt_of_lt_of_le s7 hb.size
            clear hse hb
            refine hK.out _ _ hT (fun _ => trivial) ?_
            clear hK K
            try simp only [Act.put, List.setIfInBounds_toArray, List.set_cons_zero, List.set_cons_succ]
            obtain ⟨z0, z1, z2, z3, z4, zf⟩ := row_cells n6
            have zf0 := zf 0; have zf1 := zf 1; have zf2 := zf 2; have zf3 := zf 3; have zf4 := zf 4
            clear zf
            refine Until.wpU_ready (rs := [8]) (by kernel_rfl) (by simp) ?_
            refine (Until.AllU.cons (o := { dst := none, op := Op.store 25 (Operand.tmp 3) (Operand.tmp 33), type := 0, pos := "law.go:137", after := #[{ on := 6, ground := Ground.data }, { on := 2, ground := Ground.data }, { on := 5, ground := Ground.chain }, { on := 0, ground := Ground.phase }, { on := 1, ground := Ground.phase }, { on := 2, ground := Ground.phase }, { on := 3, ground := Ground.textOnly Departure.lateStores }, { on := 4, ground := Ground.textOnly Departure.lateStores }, { on := 5, ground := Ground.textOnly Departure.lateStoresUnsure }, { on := 6, ground := Ground.phase }, { on := 7, ground := Ground.phase }], guard := none }) rfl (fun K hK => ?_) Until.AllU.nil)
            go_simp
            have hT8 := chg_put hT l6 (.int .i64 kv) (.int .i64 xv) (.string sv) (.slice anv lnv cnv) (.slice aiv liv civ)
            refine hK.out _ _ hT8 (fun _ => trivial) ?_
            clear hK K
            try simp only [Act.put, List.setIfInBounds_toArray, List.set_cons_zero, List.set_cons_succ]
            clear z0 z1 z2 z3 z4 zf0 zf1 zf2 zf3 zf4
            obtain ⟨z0, z1, z2, z3, z4, zf⟩ := row_cells n7
            have hne2 := Ne.symm hne
            have zf0 := zf 0; have zf1 := zf 1; have zf2 := zf 2; have zf3 := zf 3; have zf4 := zf 4
            clear zf
            obtain ⟨b6, b7⟩ := two_end n6 n7 hne o2.out o5.out (by simp) (by simp)
            replace b6 := hid_f b6
            replace b7 := hid_f b7
            refine Until.wpU_ready (rs := [9]) (by kernel_rfl) (by simp) ?_
            refine (Until.AllU.cons (o := { dst := none, op := Op.store 25 (Operand.tmp 4) (Operand.tmp 36), type := 0, pos := "law.go:137", after := #[{ on := 7, ground := Ground.data }, { on := 5, ground := Ground.data }, { on := 8, ground := Ground.chain }, { on := 0, ground := Ground.phase }, { on := 1, ground := Ground.phase }, { on := 2, ground := Ground.phase }, { on := 3, ground := Ground.phase }, { on := 4, ground := Ground.phase }, { on := 5, ground := Ground.phase }, { on := 6, ground := Ground.phase }, { on := 7, ground := Ground.phase }, { on := 8, ground := Ground.phase }], guard := none }) rfl (fun K hK => ?_) Until.AllU.nil)
            go_simp
            have hT9 := chg_put hT8 l7 (.int .i64 ky) (.int .i64 xy) (.string sy) (.slice any lny cny) (.slice aiy liy ciy)
            refine hK.out _ _ hT9 (fun _ => trivial) ?_
            clear hK K
            try simp only [Act.put, List.setIfInBounds_toArray, List.set_cons_zero, List.set_cons_succ]
            clear z0 z1 z2 z3 z4 zf0 zf1 zf2 zf3 zf4
            refine Until.wpU_done (by kernel_rfl) ?_ _
            refine NoPanic.normal ?_
            go_wp2_with fail
            go_meet
            exact ⟨_, _, _, _, _, _, _, _, _, _, _, _, _, _, _, _, _, _, _, _, rfl, rfl, hT9, b6, b7⟩
        · skip
          go_simp
          have n7 := heap_alloc_new A0c (.cells #[.int .i64 0, .int .i64 0, .string ⟨#[]⟩, .slice none 0 0, .slice none 0 0] 25)
          have l7 := chg_lt hT
          have hz : (A0c.alloc (.cells #[.int .i64 0, .int .i64 0, .string ⟨#[]⟩, .slice none 0 0, .slice none 0 0] 25)).heap.size = A0c.heap.size + 1 := World.size_alloc _ _
          replace hT := hT.keep ((Below.refl _ A0c).alloc (Nat.le_refl _) (.cells #[.int .i64 0, .int .i64 0, .string ⟨#[]⟩, .slice none 0 0, .slice none 0 0] 25))
          replace n6 := block_keep n6 ((Below.refl _ A0c).alloc (Nat.le_refl _) (.cells #[.int .i64 0, .int .i64 0, .string ⟨#[]⟩, .slice none 0 0, .slice none 0 0] 25))
          refine hK.out _ _ hT (fun _ => trivial) ?_
          clear hK K
          try simp only [Act.put, List.setIfInBounds_toArray, List.set_cons_zero, List.set_cons_succ]
          generalize A0c.alloc (.cells #[.int .i64 0, .int .i64 0, .string ⟨#[]⟩, .slice none 0 0, .slice none 0 0] 25) = A0cd at hT n7 hz n6 ⊢
          obtain ⟨g7, hq⟩ : ∃ g, A0c.heap.size = g := ⟨_, rfl⟩
          rw [hq] at n7 l7 hz s6
          rw [hq]
          clear hq
          have s7 : g7 < A0cd.heap.size := by omega
          have hne : g6 ≠ g7 := by omega
          replace s6 : g6 < A0cd.heap.size := by omega
          clear hz
          refine Until.wpU_ready (rs := [2]) (by kernel_rfl) (by simp) ?_
          refine (Until.AllU.cons (o := { dst := some 33, op := Op.call { callee := Callee.value (Operand.func 18), args := #[Operand.tmp 32], argTypes := #[25] }, type := 25, pos := "law.go:137", after := #[{ on := 1, ground := Ground.data }], guard := none }) rfl (fun K hK => ?_) Until.AllU.nil)
          go_simp
          refine (copyv_any V (five k1 x1 s1 (.slice an1 ln1 cn1) (.slice ai1 li1 ci1)) A0cd (VRep.keep hT.below _ _ hV.out) hsV.out).mono ?_
          rintro e A0cda ⟨kv, xv, sv, anv, lnv, cnv, aiv, liv, civ, rfl, hse, hb⟩
          replace hT := hT.keep hb
          replace n6 := block_keep n6 hb
          replace n7 := block_keep n7 hb
          have o2 := hid_f (off_copy (l := [g7, g6]) (by intro g hg; simp only [List.mem_cons, List.not_mem_nil, or_false] at hg; omega) hse)
          replace s6 := Nat.lt_of_lt_of_le s6 hb.size
          replace s7 := Nat.lt_of_lt_of_le s7 hb.size
          clear hse hb
          refine hK.out _ _ hT (fun _ => trivial) ?_
          clear hK K
          try simp only [Act.put, List.setIfInBounds_toArray, List.set_cons_zero, List.set_cons_succ]
          refine Until.wpU_ready (rs := [5]) (by kernel_rfl) (by simp) ?_
          refine (Until.AllU.cons (o := { dst := some 36, op := Op.call { callee := Callee.value (Operand.func 18), args := #[Operand.tmp 35], argTypes := #[25] }, type := 25, pos := "law.go:137", after := #[{ on := 4, ground := Ground.data }, { on := 2, ground := Ground.chain }], guard := none }) rfl (fun K hK => ?_) Until.AllU.nil)
          go_simp
          refine (copyv_any X (five k2 x2 s2 (.slice an2 ln2 cn2) (.slice ai2 li2 ci2)) A0cda (VRep.keep hT.below _ _ hX.out) hsX.out).mono ?_
          rintro e A0cdab ⟨ky, xy, sy, any, lny, cny, aiy, liy, ciy, rfl, hse, hb⟩
          replace hT := hT.keep hb
          replace n6 := block_keep n6 hb
          replace n7 := block_keep n7 hb
          replace o2 := hid_f (off_keep o2.out hb)
          have o5 := hid_f (off_copy (l := [g7, g6]) (by intro g hg; simp only [List.mem_cons, List.not_mem_nil, or_false] at hg; omega) hse)
          replace s6 := Nat.lt_of_lt_of_le s6 hb.size
          replace s7 := Nat.lt_of_lt_of_le s7 hb.size
          clear hse hb
          refine hK.out _ _ hT (fun _ => trivial) ?_
          clear hK K
          try simp only [Act.put, List.setIfInBounds_toArray, List.set_cons_zero, List.set_cons_succ]
          obtain ⟨z0, z1, z2, z3, z4, zf⟩ := row_cells n6
          have zf0 := zf 0; have zf1 := zf 1; have zf2 := zf 2; have zf3 := zf 3; have zf4 := zf 4
          clear zf
          refine Until.wpU_ready (rs := [8]) (by kernel_rfl) (by simp) ?_
          refine (Until.AllU.cons (o := { dst := none, op := Op.store 25 (Operand.tmp 3) (Operand.tmp 33), type := 0, pos := "law.go:137", after := #[{ on := 6, ground := Ground.data }, { on := 2, ground := Ground.data }, { on := 5, ground := Ground.chain }, { on := 0, ground := Ground.phase }, { on := 1, ground := Ground.phase }, { on := 2, ground := Ground.phase }, { on := 3, ground := Ground.textOnly Departure.lateStores }, { on := 4, ground := Ground.textOnly Departure.lateStores }, { on := 5, ground := Ground.textOnly Departure.lateStoresUnsure }, { on := 6, ground := Ground.phase }, { on := 7, ground := Ground.phase }], guard := none }) rfl (fun K hK => ?_) Until.AllU.nil)
          go_simp
          have hT8 := chg_put hT l6 (.int .i64 kv) (.int .i64 xv) (.string sv) (.slice anv lnv cnv) (.slice aiv liv civ)
          refine hK.out _ _ hT8 (fun _ => trivial) ?_
          clear hK K
          try simp only [Act.put, List.setIfInBounds_toArray, List.set_cons_zero, List.set_cons_succ]
          clear z0 z1 z2 z3 z4 zf0 zf1 zf2 zf3 zf4
          obtain ⟨z0, z1, z2, z3, z4, zf⟩ := row_cells n7
          have hne2 := Ne.symm hne
          have zf0 := zf 0; have zf1 := zf 1; have zf2 := zf 2; have zf3 := zf 3; have zf4 := zf 4
          clear zf
          obtain ⟨b6, b7⟩ := two_end n6 n7 hne o2.out o5.out (by simp) (by simp)
          replace b6 := hid_f b6
          replace b7 := hid_f b7
          refine Until.wpU_ready (rs := [9]) (by kernel_rfl) (by simp) ?_
          refine (Until.AllU.cons (o := { dst := none, op := Op.store 25 (Operand.tmp 4) (Operand.tmp 36), type := 0, pos := "law.go:137", after := #[{ on := 7, ground := Ground.data }, { on := 5, ground := Ground.data }, { on := 8, ground := Ground.chain }, { on := 0, ground := Ground.phase }, { on := 1, ground := Ground.phase }, { on := 2, ground := Ground.phase }, { on := 3, ground := Ground.phase }, { on := 4, ground := Ground.phase }, { on := 5, ground := Ground.phase }, { on := 6, ground := Ground.phase }, { on := 7, ground := Ground.phase }, { on := 8, ground := Ground.phase }], guard := none }) rfl (fun K hK => ?_) Until.AllU.nil)
          go_simp
          have hT9 := chg_put hT8 l7 (.int .i64 ky) (.int .i64 xy) (.string sy) (.slice any lny cny) (.slice aiy liy ciy)
          refine hK.out _ _ hT9 (fun _ => trivial) ?_
          clear hK K
          try simp only [Act.put, List.setIfInBounds_toArray, List.set_cons_zero, List.set_cons_succ]
          clear z0 z1 z2 z3 z4 zf0 zf1 zf2 zf3 zf4
          refine Until.wpU_done (by kernel_rfl) ?_ _
          refine NoPanic.normal ?_
          go_wp2_with fail
          go_meet
          exact ⟨_, _, _, _, _, _, _, _, _, _, _, _, _, _, _, _, _, _, _, _, rfl, rfl, hT9, b6, b7⟩
      · skip
        go_simp
        have n7 := heap_alloc_new A0 (.cells #[.int .i64 0, .int .i64 0, .string ⟨#[]⟩, .slice none 0 0, .slice none 0 0] 25)
        have l7 := chg_lt hT
        have hz : (A0.alloc (.cells #[.int .i64 0, .int .i64 0, .string ⟨#[]⟩, .slice none 0 0, .slice none 0 0] 25)).heap.size = A0.heap.size + 1 := World.size_alloc _ _
        replace hT := hT.keep ((Below.refl _ A0).alloc (Nat.le_refl _) (.cells #[.int .i64 0, .int .i64 0, .string ⟨#[]⟩, .slice none 0 0, .slice none 0 0] 25))
        refine hK.out _ _ hT (fun _ => trivial) ?_
        clear hK K
        try simp only [Act.put, List.setIfInBounds_toArray, List.set_cons_zero, List.set_cons_succ]
        generalize A0.alloc (.cells #[.int .i64 0, .int .i64 0, .string ⟨#[]⟩, .slice none 0 0, .slice none 0 0] 25) = A0d at hT n7 hz ⊢
        obtain ⟨g7, hq⟩ : ∃ g, A0.heap.size = g := ⟨_, rfl⟩
        rw [hq] at n7 l7 hz
        rw [hq]
        clear hq
        have s7 : g7 < A0d.heap.size := by omega
        clear hz
        refine Until.wpU_ready (rs := [2, 6]) (by kernel_rfl) (by simp) ?_
        refine (Until.AllU.cons (o := { dst := some 33, op := Op.call { callee := Callee.value (Operand.func 18), args := #[Operand.tmp 32], argTypes := #[25] }, type := 25, pos := "law.go:137", after := #[{ on := 1, ground := Ground.data }], guard := none }) rfl (fun K hK => ?_) (Until.AllU.cons (o := { dst := some 3, op := Op.alloc 25, type := 0, pos := "law.go:137", after := #[], guard := none }) rfl (fun K hK => ?_) Until.AllU.nil))
        · skip
          go_simp
          refine (copyv_any V (five k1 x1 s1 (.slice an1 ln1 cn1) (.slice ai1 li1 ci1)) A0d (VRep.keep hT.below _ _ hV.out) hsV.out).mono ?_
          rintro e A0da ⟨kv, xv, sv, anv, lnv, cnv, aiv, liv, civ, rfl, hse, hb⟩
          replace hT := hT.keep hb
          replace n7 := block_keep n7 hb
          have o2 := hid_f (off_copy (l := [g7]) (by intro g hg; simp only [List.mem_cons, List.not_mem_nil, or_false] at hg; omega) hse)
          replace s7 := Nat.lt_of_lt_of_le s7 hb.size
          clear hse hb
          refine hK.out _ _ hT (fun _ => trivial) ?_
          clear hK K
          try simp only [Act.put, List.setIfInBounds_toArray, List.set_cons_zero, List.set_cons_succ]
          refine Until.wpU_ready (rs := [5, 6]) (by kernel_rfl) (by simp) ?_
          refine (Until.AllU.cons (o := { dst := some 36, op := Op.call { callee := Callee.value (Operand.func 18), args := #[Operand.tmp 35], argTypes := #[25] }, type := 25, pos := "law.go:137", after := #[{ on := 4, ground := Ground.data }, { on := 2, ground := Ground.chain }], guard := none }) rfl (fun K hK => ?_) (Until.AllU.cons (o := { dst := some 3, op := Op.alloc 25, type := 0, pos := "law.go:137", after := #[], guard := none }) rfl (fun K hK => ?_) Until.AllU.nil))
          · skip
            go_simp
            refine (copyv_any X (five k2 x2 s2 (.slice an2 ln2 cn2) (.slice ai2 li2 ci2)) A0da (VRep.keep hT.below _ _ hX.out) hsX.out).mono ?_
            rintro e A0dab ⟨ky, xy, sy, any, lny, cny, aiy, liy, ciy, rfl, hse, hb⟩
            replace hT := hT.keep hb
            replace n7 := block_keep n7 hb
            replace o2 := hid_f (off_keep o2.out hb)
            have o5 := hid_f (off_copy (l := [g7]) (by intro g hg; simp only [List.mem_cons, List.not_mem_nil, or_false] at hg; omega) hse)
            replace s7 := Nat.lt_of_lt_of_le s7 hb.size
            clear hse hb
            refine hK.out _ _ hT (fun _ => trivial) ?_
            clear hK K
            try simp only [Act.put, List.setIfInBounds_toArray, List.set_cons_zero, List.set_cons_succ]
            refine Until.wpU_ready (rs := [6]) (by kernel_rfl) (by simp) ?_
            refine (Until.AllU.cons (o := { dst := some 3, op := Op.alloc 25, type := 0, pos := "law.go:137", after := #[], guard := none }) rfl (fun K hK => ?_) Until.AllU.nil)
            go_simp
            have n6 := heap_alloc_new A0dab (.cells #[.int .i64 0, .int .i64 0, .string ⟨#[]⟩, .slice none 0 0, .slice none 0 0] 25)
            have l6 := chg_lt hT
            have hz : (A0dab.alloc (.cells #[.int .i64 0, .int .i64 0, .string ⟨#[]⟩, .slice none 0 0, .slice none 0 0] 25)).heap.size = A0dab.heap.size + 1 := World.size_alloc _ _
            replace hT := hT.keep ((Below.refl _ A0dab).alloc (Nat.le_refl _) (.cells #[.int .i64 0, .int .i64 0, .string ⟨#[]⟩, .slice none 0 0, .slice none 0 0] 25))
            replace n7 := block_keep n7 ((Below.refl _ A0dab).alloc (Nat.le_refl _) (.cells #[.int .i64 0, .int .i64 0, .string ⟨#[]⟩, .slice none 0 0, .slice none 0 0] 25))
            replace o2 := hid_f (off_alloc o2.out (.cells #[.int .i64 0, .int .i64 0, .string ⟨#[]⟩, .slice none 0 0, .slice none 0 0] 25))
            replace o5 := hid_f (off_alloc o5.out (.cells #[.int .i64 0, .int .i64 0, .string ⟨#[]⟩, .slice none 0 0, .slice none 0 0] 25))
            refine hK.out _ _ hT (fun _ => trivial) ?_
            clear hK K
            try simp only [Act.put, List.setIfInBounds_toArray, List.set_cons_zero, List.set_cons_succ]
            generalize A0dab.alloc (.cells #[.int .i64 0, .int .i64 0, .string ⟨#[]⟩, .slice none 0 0, .slice none 0 0] 25) = A0dabc at hT n6 hz n7 o2 o5 ⊢
            obtain ⟨g6, hq⟩ : ∃ g, A0dab.heap.size = g := ⟨_, rfl⟩
            rw [hq] at n6 l6 hz o2 o5 s7
            rw [hq]
            clear hq
            have s6 : g6 < A0dabc.heap.size := by omega
            have hne : g6 ≠ g7 := by omega
            replace s7 : g7 < A0dabc.heap.size := by omega
            clear hz
            obtain ⟨z0, z1, z2, z3, z4, zf⟩ := row_cells n6
            have zf0 := zf 0; have zf1 := zf 1; have zf2 := zf 2; have zf3 := zf 3; have zf4 := zf 4
            clear zf
            refine Until.wpU_ready (rs := [8]) (by kernel_rfl) (by simp) ?_
            refine (Until.AllU.cons (o := { dst := none, op := Op.store 25 (Operand.tmp 3) (Operand.tmp 33), type := 0, pos := "law.go:137", after := #[{ on := 6, ground := Ground.data }, { on := 2, ground := Ground.data }, { on := 5, ground := Ground.chain }, { on := 0, ground := Ground.phase }, { on := 1, ground := Ground.phase }, { on := 2, ground := Ground.phase }, { on := 3, ground := Ground.textOnly Departure.lateStores }, { on := 4, ground := Ground.textOnly Departure.lateStores }, { on := 5, ground := Ground.textOnly Departure.lateStoresUnsure }, { on := 6, ground := Ground.phase }, { on := 7, ground := Ground.phase }], guard := none }) rfl (fun K hK => ?_) Until.AllU.nil)
            go_simp
            have hT8 := chg_put hT l6 (.int .i64 kv) (.int .i64 xv) (.string sv) (.slice anv lnv cnv) (.slice aiv liv civ)
            refine hK.out _ _ hT8 (fun _ => trivial) ?_
            clear hK K
            try simp only [Act.put, List.setIfInBounds_toArray, List.set_cons_zero, List.set_cons_succ]
            clear z0 z1 z2 z3 z4 zf0 zf1 zf2 zf3 zf4
            obtain ⟨z0, z1, z2, z3, z4, zf⟩ := row_cells n7
            have hne2 := Ne.symm hne
            have zf0 := zf 0; have zf1 := zf 1; have zf2 := zf 2; have zf3 := zf 3; have zf4 := zf 4
            clear zf
            obtain ⟨b6, b7⟩ := two_end n6 n7 hne o2.out o5.out (by simp) (by simp)
            replace b6 := hid_f b6
            replace b7 := hid_f b7
            refine Until.wpU_ready (rs := [9]) (by kernel_rfl) (by simp) ?_
            refine (Until.AllU.cons (o := { dst := none, op := Op.store 25 (Operand.tmp 4) (Operand.tmp 36), type := 0, pos := "law.go:137", after := #[{ on := 7, ground := Ground.data }, { on := 5, ground := Ground.data }, { on := 8, ground := Ground.chain }, { on := 0, ground := Ground.phase }, { on := 1, ground := Ground.phase }, { on := 2, ground := Ground.phase }, { on := 3, ground := Ground.phase }, { on := 4, ground := Ground.phase }, { on := 5, ground := Ground.phase }, { on := 6, ground := Ground.phase }, { on := 7, ground := Ground.phase }, { on := 8, ground := Ground.phase }], guard := none }) rfl (fun K hK => ?_) Until.AllU.nil)
            go_simp
            have hT9 := chg_put hT8 l7 (.int .i64 ky) (.int .i64 xy) (.string sy) (.slice any lny cny) (.slice aiy liy ciy)
            refine hK.out _ _ hT9 (fun _ => trivial) ?_
            clear hK K
            try simp only [Act.put, List.setIfInBounds_toArray, List.set_cons_zero, List.set_cons_succ]
            clear z0 z1 z2 z3 z4 zf0 zf1 zf2 zf3 zf4
            refine Until.wpU_done (by kernel_rfl) ?_ _
            refine NoPanic.normal ?_
            go_wp2_with fail
            go_meet
            exact ⟨_, _, _, _, _, _, _, _, _, _, _, _, _, _, _, _, _, _, _, _, rfl, rfl, hT9, b6, b7⟩
          · skip
            go_simp
            have n6 := heap_alloc_new A0da (.cells #[.int .i64 0, .int .i64 0, .string ⟨#[]⟩, .slice none 0 0, .slice none 0 0] 25)
            have l6 := chg_lt hT
            have hz : (A0da.alloc (.cells #[.int .i64 0, .int .i64 0, .string ⟨#[]⟩, .slice none 0 0, .slice none 0 0] 25)).heap.size = A0da.heap.size + 1 := World.size_alloc _ _
            replace hT := hT.keep ((Below.refl _ A0da).alloc (Nat.le_refl _) (.cells #[.int .i64 0, .int .i64 0, .string ⟨#[]⟩, .slice none 0 0, .slice none 0 0] 25))
            replace n7 := block_keep n7 ((Below.refl _ A0da).alloc (Nat.le_refl _) (.cells #[.int .i64 0, .int .i64 0, .string ⟨#[]⟩, .slice none 0 0, .slice none 0 0] 25))
            replace o2 := hid_f (off_alloc o2.out (.cells #[.int .i64 0, .int .i64 0, .string ⟨#[]⟩, .slice none 0 0, .slice none 0 0] 25))
            refine hK.out _ _ hT (fun _ => trivial) ?_
            clear hK K
            try simp only [Act.put, List.setIfInBounds_toArray, List.set_cons_zero, List.set_cons_succ]
            generalize A0da.alloc (.cells #[.int .i64 0, .int .i64 0, .string ⟨#[]⟩, .slice none 0 0, .slice none 0 0] 25) = A0dac at hT n6 hz n7 o2 ⊢
            obtain ⟨g6, hq⟩ : ∃ g, A0da.heap.size = g := ⟨_, rfl⟩
            rw [hq] at n6 l6 hz o2 s7
            rw [hq]
            clear hq
            have s6 : g6 < A0dac.heap.size := by omega
            have hne : g6 ≠ g7 := by omega
            replace s7 : g7 < A0dac.heap.size := by omega
            clear hz
            refine Until.wpU_ready (rs := [5]) (by kernel_rfl) (by simp) ?_
            refine (Until.AllU.cons (o := { dst := some 36, op := Op.call { callee := Callee.value (Operand.func 18), args := #[Operand.tmp 35], argTypes := #[25] }, type := 25, pos := "law.go:137", after := #[{ on := 4, ground := Ground.data }, { on := 2, ground := Ground.chain }], guard := none }) rfl (fun K hK => ?_) Until.AllU.nil)
            go_simp
            refine (copyv_any X (five k2 x2 s2 (.slice an2 ln2 cn2) (.slice ai2 li2 ci2)) A0dac (VRep.keep hT.below _ _ hX.out) hsX.out).mono ?_
            rintro e A0dacb ⟨ky, xy, sy, any, lny, cny, aiy, liy, ciy, rfl, hse, hb⟩
            replace hT := hT.keep hb
            replace n7 := block_keep n7 hb
            replace o2 := hid_f (off_keep o2.out hb)
            replace n6 := block_keep n6 hb
            have o5 := hid_f (off_copy (l := [g6, g7]) (by intro g hg; simp only [List.mem_cons, List.not_mem_nil, or_false] at hg; omega) hse)
            replace s7 := Nat.lt_of_lt_of_le s7 hb.size
            replace s6 := Nat.lt_of_lt_of_le s6 hb.size
            clear hse hb
            refine hK.out _ _ hT (fun _ => trivial) ?_
            clear hK K
            try simp only [Act.put, List.setIfInBounds_toArray, List.set_cons_zero, List.set_cons_succ]
            obtain ⟨z0, z1, z2, z3, z4, zf⟩ := row_cells n6
            have zf0 := zf 0; have zf1 := zf 1; have zf2 := zf 2; have zf3 := zf 3; have zf4 := zf 4
            clear zf
            refine Until.wpU_ready (rs := [8]) (by kernel_rfl) (by simp) ?_
            refine (Until.AllU.cons (o := { dst := none, op := Op.store 25 (Operand.tmp 3) (Operand.tmp 33), type := 0, pos := "law.go:137", after := #[{ on := 6, ground := Ground.data }, { on := 2, ground := Ground.data }, { on := 5, ground := Ground.chain }, { on := 0, ground := Ground.phase }, { on := 1, ground := Ground.phase }, { on := 2, ground := Ground.phase }, { on := 3, ground := Ground.textOnly Departure.lateStores }, { on := 4, ground := Ground.textOnly Departure.lateStores }, { on := 5, ground := Ground.textOnly Departure.lateStoresUnsure }, { on := 6, ground := Ground.phase }, { on := 7, ground := Ground.phase }], guard := none }) rfl (fun K hK => ?_) Until.AllU.nil)
            go_simp
            have hT8 := chg_put hT l6 (.int .i64 kv) (.int .i64 xv) (.string sv) (.slice anv lnv cnv) (.slice aiv liv civ)
            refine hK.out _ _ hT8 (fun _ => trivial) ?_
            clear hK K
            try simp only [Act.put, List.setIfInBounds_toArray, List.set_cons_zero, List.set_cons_succ]
            clear z0 z1 z2 z3 z4 zf0 zf1 zf2 zf3 zf4
            obtain ⟨z0, z1, z2, z3, z4, zf⟩ := row_cells n7
            have hne2 := Ne.symm hne
            have zf0 := zf 0; have zf1 := zf 1; have zf2 := zf 2; have zf3 := zf 3; have zf4 := zf 4
            clear zf
            obtain ⟨b6, b7⟩ := two_end n6 n7 hne o2.out o5.out (by simp) (by simp)
            replace b6 := hid_f b6
            replace b7 := hid_f b7
            refine Until.wpU_ready (rs := [9]) (by kernel_rfl) (by simp) ?_
            refine (Until.AllU.cons (o := { dst := none, op := Op.store 25 (Operand.tmp 4) (Operand.tmp 36), type := 0, pos := "law.go:137", after := #[{ on := 7, ground := Ground.data }, { on := 5, ground := Ground.data }, { on := 8, ground := Ground.chain }, { on := 0, ground := Ground.phase }, { on := 1, ground := Ground.phase }, { on := 2, ground := Ground.phase }, { on := 3, ground := Ground.phase }, { on := 4, ground := Ground.phase }, { on := 5, ground := Ground.phase }, { on := 6, ground := Ground.phase }, { on := 7, ground := Ground.phase }, { on := 8, ground := Ground.phase }], guard := none }) rfl (fun K hK => ?_) Until.AllU.nil)
            go_simp
            have hT9 := chg_put hT8 l7 (.int .i64 ky) (.int .i64 xy) (.string sy) (.slice any lny cny) (.slice aiy liy ciy)
            refine hK.out _ _ hT9 (fun _ => trivial) ?_
            clear hK K
            try simp only [Act.put, List.setIfInBounds_toArray, List.set_cons_zero, List.set_cons_succ]
            clear z0 z1 z2 z3 z4 zf0 zf1 zf2 zf3 zf4
            refine Until.wpU_done (by kernel_rfl) ?_ _
            refine NoPanic.normal ?_
            go_wp2_with fail
            go_meet
            exact ⟨_, _, _, _, _, _, _, _, _, _, _, _, _, _, _, _, _, _, _, _, rfl, rfl, hT9, b6, b7⟩
        · skip
          go_simp
          have n6 := heap_alloc_new A0d (.cells #[.int .i64 0, .int .i64 0, .string ⟨#[]⟩, .slice none 0 0, .slice none 0 0] 25)
          have l6 := chg_lt hT
          have hz : (A0d.alloc (.cells #[.int .i64 0, .int .i64 0, .string ⟨#[]⟩, .slice none 0 0, .slice none 0 0] 25)).heap.size = A0d.heap.size + 1 := World.size_alloc _ _
          replace hT := hT.keep ((Below.refl _ A0d).alloc (Nat.le_refl _) (.cells #[.int .i64 0, .int .i64 0, .string ⟨#[]⟩, .slice none 0 0, .slice none 0 0] 25))
          replace n7 := block_keep n7 ((Below.refl _ A0d).alloc (Nat.le_refl _) (.cells #[.int .i64 0, .int .i64 0, .string ⟨#[]⟩, .slice none 0 0, .slice none 0 0] 25))
          refine hK.out _ _ hT (fun _ => trivial) ?_
          clear hK K
          try simp only [Act.put, List.setIfInBounds_toArray, List.set_cons_zero, List.set_cons_succ]
          generalize A0d.alloc (.cells #[.int .i64 0, .int .i64 0, .string ⟨#[]⟩, .slice none 0 0, .slice none 0 0] 25) = A0dc at hT n6 hz n7 ⊢
          obtain ⟨g6, hq⟩ : ∃ g, A0d.heap.size = g := ⟨_, rfl⟩
          rw [hq] at n6 l6 hz s7
          rw [hq]
          clear hq
          have s6 : g6 < A0dc.heap.size := by omega
          have hne : g6 ≠ g7 := by omega
          replace s7 : g7 < A0dc.heap.size := by omega
          clear hz
          refine Until.wpU_ready (rs := [2]) (by kernel_rfl) (by simp) ?_
          refine (Until.AllU.cons (o := { dst := some 33, op := Op.call { callee := Callee.value (Operand.func 18), args := #[Operand.tmp 32], argTypes := #[25] }, type := 25, pos := "law.go:137", after := #[{ on := 1, ground := Ground.data }], guard := none }) rfl (fun K hK => ?_) Until.AllU.nil)
          go_simp
          refine (copyv_any V (five k1 x1 s1 (.slice an1 ln1 cn1) (.slice ai1 li1 ci1)) A0dc (VRep.keep hT.below _ _ hV.out) hsV.out).mono ?_
          rintro e A0dca ⟨kv, xv, sv, anv, lnv, cnv, aiv, liv, civ, rfl, hse, hb⟩
          replace hT := hT.keep hb
          replace n7 := block_keep n7 hb
          replace n6 := block_keep n6 hb
          have o2 := hid_f (off_copy (l := [g6, g7]) (by intro g hg; simp only [List.mem_cons, List.not_mem_nil, or_false] at hg; omega) hse)
          replace s7 := Nat.lt_of_lt_of_le s7 hb.size
          replace s6 := Nat.lt_of_lt_of_le s6 hb.size
          clear hse hb
          refine hK.out _ _ hT (fun _ => trivial) ?_
          clear hK K
          try simp only [Act.put, List.setIfInBounds_toArray, List.set_cons_zero, List.set_cons_succ]
          refine Until.wpU_ready (rs := [5]) (by kernel_rfl) (by simp) ?_
          refine (Until.AllU.cons (o := { dst := some 36, op := Op.call { callee := Callee.value (Operand.func 18), args := #[Operand.tmp 35], argTypes := #[25] }, type := 25, pos := "law.go:137", after := #[{ on := 4, ground := Ground.data }, { on := 2, ground := Ground.chain }], guard := none }) rfl (fun K hK => ?_) Until.AllU.nil)
          go_simp
          refine (copyv_any X (five k2 x2 s2 (.slice an2 ln2 cn2) (.slice ai2 li2 ci2)) A0dca (VRep.keep hT.below _ _ hX.out) hsX.out).mono ?_
          rintro e A0dcab ⟨ky, xy, sy, any, lny, cny, aiy, liy, ciy, rfl, hse, hb⟩
          replace hT := hT.keep hb
          replace n7 := block_keep n7 hb
          replace n6 := block_keep n6 hb
          replace o2 := hid_f (off_keep o2.out hb)
          have o5 := hid_f (off_copy (l := [g6, g7]) (by intro g hg; simp only [List.mem_cons, List.not_mem_nil, or_false] at hg; omega) hse)
          replace s7 := Nat.lt_of_lt_of_le s7 hb.size
          replace s6 := Nat.lt_of_lt_of_le s6 hb.size
          clear hse hb
          refine hK.out _ _ hT (fun _ => trivial) ?_
          clear hK K
          try simp only [Act.put, List.setIfInBounds_toArray, List.set_cons_zero, List.set_cons_succ]
          obtain ⟨z0, z1, z2, z3, z4, zf⟩ := row_cells n6
          have zf0 := zf 0; have zf1 := zf 1; have zf2 := zf 2; have zf3 := zf 3; have zf4 := zf 4
          clear zf
          refine Until.wpU_ready (rs := [8]) (by kernel_rfl) (by simp) ?_
          refine (Until.AllU.cons (o := { dst := none, op := Op.store 25 (Operand.tmp 3) (Operand.tmp 33), type := 0, pos := "law.go:137", after := #[{ on := 6, ground := Ground.data }, { on := 2, ground := Ground.data }, { on := 5, ground := Ground.chain }, { on := 0, ground := Ground.phase }, { on := 1, ground := Ground.phase }, { on := 2, ground := Ground.phase }, { on := 3, ground := Ground.textOnly Departure.lateStores }, { on := 4, ground := Ground.textOnly Departure.lateStores }, { on := 5, ground := Ground.textOnly Departure.lateStoresUnsure }, { on := 6, ground := Ground.phase }, { on := 7, ground := Ground.phase }], guard := none }) rfl (fun K hK => ?_) Until.AllU.nil)
          go_simp
          have hT8 := chg_put hT l6 (.int .i64 kv) (.int .i64 xv) (.string sv) (.slice anv lnv cnv) (.slice aiv liv civ)
          refine hK.out _ _ hT8 (fun _ => trivial) ?_
          clear hK K
          try simp only [Act.put, List.setIfInBounds_toArray, List.set_cons_zero, List.set_cons_succ]
          clear z0 z1 z2 z3 z4 zf0 zf1 zf2 zf3 zf4
          obtain ⟨z0, z1, z2, z3, z4, zf⟩ := row_cells n7
          have hne2 := Ne.symm hne
          have zf0 := zf 0; have zf1 := zf 1; have zf2 := zf 2; have zf3 := zf 3; have zf4 := zf 4
          clear zf
          obtain ⟨b6, b7⟩ := two_end n6 n7 hne o2.out o5.out (by simp) (by simp)
          replace b6 := hid_f b6
          replace b7 := hid_f b7
          refine Until.wpU_ready (rs := [9]) (by kernel_rfl) (by simp) ?_
          refine (Until.AllU.cons (o := { dst := none, op := Op.store 25 (Operand.tmp 4) (Operand.tmp 36), type := 0, pos := "law.go:137", after := #[{ on := 7, ground := Ground.data }, { on := 5, ground := Ground.data }, { on := 8, ground := Ground.chain }, { on := 0, ground := Ground.phase }, { on := 1, ground := Ground.phase }, { on := 2, ground := Ground.phase }, { on := 3, ground := Ground.phase }, { on := 4, ground := Ground.phase }, { on := 5, ground := Ground.phase }, { on := 6, ground := Ground.phase }, { on := 7, ground := Ground.phase }, { on := 8, ground := Ground.phase }], guard := none }) rfl (fun K hK => ?_) Until.AllU.nil)
          go_simp
          have hT9 := chg_put hT8 l7 (.int .i64 ky) (.int .i64 xy) (.string sy) (.slice any lny cny) (.slice aiy liy ciy)
          refine hK.out _ _ hT9 (fun _ => trivial) ?_
          clear hK K
          try simp only [Act.put, List.setIfInBounds_toArray, List.set_cons_zero, List.set_cons_succ]
          clear z0 z1 z2 z3 z4 zf0 zf1 zf2 zf3 zf4
          refine Until.wpU_done (by kernel_rfl) ?_ _
          refine NoPanic.normal ?_
          go_wp2_with fail
          go_meet
          exact ⟨_, _, _, _, _, _, _, _, _, _, _, _, _, _, _, _, _, _, _, _, rfl, rfl, hT9, b6, b7⟩
    case rest =>
      clear hT
      obtain ⟨g6, g7, kv, xv, sv, anv, lnv, cnv, aiv, liv, civ, ky, xy, sy, any, lny, cny, aiy, liy, ciy, rfl, rfl, hT, hv, hy⟩ := hcut
      rename_i hKK
      apply hKK
      clear hKK
      have c0 := Chg.cell hT (j := 0) rfl
      have c1 := Chg.cell hT (j := 1) rfl
      have c2 := Chg.cell hT (j := 2) rfl
      have c3 := Chg.cell hT (j := 3) rfl
      have c4 := Chg.cell hT (j := 4) rfl
      have c5 := Chg.cell hT (j := 5) rfl
      have c6 := Chg.cell hT (j := 6) rfl
      have c7 := Chg.cell hT (j := 7) rfl
      have c8 := Chg.cell hT (j := 8) rfl
      have c9 := Chg.cell hT (j := 9) rfl
      have c10 := Chg.cell hT (j := 10) rfl
      go_wp2_with fail
      clear c0 c1 c2 c3 c4 c5 c6 c7 c8 c9 c10
      go_fit (own_any (.slice pp P.length cp) P _ (hP.out.keep hT.below) hl)
      rintro e Wo ⟨pv, rfl, hO, hbw⟩
      replace hT := hT.keep (hbw)
      replace hv := hid_f (hv.out.keep (hbw))
      replace hy := hid_f (hy.out.keep (hbw))
      obtain ⟨go, co, rfl, -⟩ := id hO
      replace hO := hid_f hO
      clear hbw
      go_upto_region 5 with fail
      obtain ⟨da, hda⟩ : ∃ d, Hid ((downT V P).1 = d) := ⟨_, hid_f rfl⟩
      obtain ⟨ub, hub⟩ : ∃ d, Hid (unsB V P = d) := ⟨_, hid_f rfl⟩
      obtain ⟨TS, hTS⟩ : ∃ d, Hid (setR V P X = d) := ⟨_, hid_f rfl⟩
      obtain ⟨TU, hTU⟩ : ∃ d, Hid (unsR V P = d) := ⟨_, hid_f rfl⟩
      have wVd : Hid (∀ st ∈ (downT V P).2, (st.1.items.length + 1) * 80 ≤ 140737488355328) := fun st hst => by have := wide_down P V (small_wide V hsV.out) st hst; omega
      obtain ⟨v0, v1, v2, v3, v4, -⟩ := row_cells hv.out.1
      obtain ⟨y0, y1, y2, y3, y4, -⟩ := row_cells hy.out.1
      go_wp2_with fail
      clear v0 v1 v2 v3 v4 y0 y1 y2 y3 y4
      go_fit (setR_any V X kv xv sv anv lnv cnv aiv liv civ ky xy sy any lny cny aiy liy ciy (.slice (some ⟨go, 0, none⟩) P.length co) P _ hv.out.2 hy.out.2 hO.out.reads a1 zP.out wV.out)
      rintro e Y ⟨ka, xa, sa, ana, lna, cna, aia, lia, cia, rfl, hv9, hbw⟩
      rw [hda.out]
      rw [hTS.out] at hv9
      replace hT := hT.keep (hbw.alloc hbw.size (.cells #[.int .i64 ka, .int .i64 xa, .string sa, .slice ana lna cna, .slice aia lia cia] 25))
      replace hv := hid_f (hv.out.keep (hbw.alloc hbw.size (.cells #[.int .i64 ka, .int .i64 xa, .string sa, .slice ana lna cna, .slice aia lia cia] 25)))
      replace hy := hid_f (hy.out.keep (hbw.alloc hbw.size (.cells #[.int .i64 ka, .int .i64 xa, .string sa, .slice ana lna cna, .slice aia lia cia] 25)))
      replace hO := hid_f (hO.out.keep (hbw.alloc hbw.size (.cells #[.int .i64 ka, .int .i64 xa, .string sa, .slice ana lna cna, .slice aia lia cia] 25)))
      have ha := hid_f (VB.new hv9)
      clear hv9 hbw
      go_upto_region 6 with fail
      generalize Y.alloc (.cells #[.int .i64 ka, .int .i64 xa, .string sa, .slice ana lna cna, .slice aia lia cia] 25) = Wa at hT hv hy ha hO ⊢
      obtain ⟨ga, hq⟩ : ∃ g, Y.heap.size = g := ⟨_, rfl⟩
      rw [hq] at ha
      rw [hq]
      clear hq
      have c0 := Chg.cell hT (j := 0) rfl
      have c1 := Chg.cell hT (j := 1) rfl
      have c2 := Chg.cell hT (j := 2) rfl
      have c3 := Chg.cell hT (j := 3) rfl
      have c4 := Chg.cell hT (j := 4) rfl
      have c5 := Chg.cell hT (j := 5) rfl
      have c6 := Chg.cell hT (j := 6) rfl
      have c7 := Chg.cell hT (j := 7) rfl
      have c8 := Chg.cell hT (j := 8) rfl
      have c9 := Chg.cell hT (j := 9) rfl
      have c10 := Chg.cell hT (j := 10) rfl
      go_wp2_with fail
      clear c0 c1 c2 c3 c4 c5 c6 c7 c8 c9 c10
      go_fit ((rset_any k2 x2 s2 an2 ln2 cn2 ai2 li2 ci2 X w hX.out P V (five k1 x1 s1 (.slice an1 ln1 cn1) (.slice ai1 li1 ci1)) pp cp _ hT.below hV.out hP.out (by omega) zP.out wV.out).mono (fun e w' h => rs_rep h))
      rintro e Y ⟨kf, xf, sf, anf, lnf, cnf, aif, lif, cif, rfl, hv9, hbw⟩
      rw [hda.out]
      rw [hTS.out] at hv9
      replace hT := hT.keep (hbw.alloc hbw.size (.cells #[.int .i64 kf, .int .i64 xf, .string sf, .slice anf lnf cnf, .slice aif lif cif] 25))
      replace hv := hid_f (hv.out.keep (hbw.alloc hbw.size (.cells #[.int .i64 kf, .int .i64 xf, .string sf, .slice anf lnf cnf, .slice aif lif cif] 25)))
      replace hy := hid_f (hy.out.keep (hbw.alloc hbw.size (.cells #[.int .i64 kf, .int .i64 xf, .string sf, .slice anf lnf cnf, .slice aif lif cif] 25)))
      replace ha := hid_f (ha.out.keep (hbw.alloc hbw.size (.cells #[.int .i64 kf, .int .i64 xf, .string sf, .slice anf lnf cnf, .slice aif lif cif] 25)))
      replace hO := hid_f (hO.out.keep (hbw.alloc hbw.size (.cells #[.int .i64 kf, .int .i64 xf, .string sf, .slice anf lnf cnf, .slice aif lif cif] 25)))
      have hf := hid_f (VB.new hv9)
      clear hv9 hbw
      go_upto_region 7 with fail
      generalize Y.alloc (.cells #[.int .i64 kf, .int .i64 xf, .string sf, .slice anf lnf cnf, .slice aif lif cif] 25) = Wf at hT hv hy ha hf hO ⊢
      obtain ⟨gf, hq⟩ : ∃ g, Y.heap.size = g := ⟨_, rfl⟩
      rw [hq] at hf
      rw [hq]
      clear hq
      obtain ⟨v0, v1, v2, v3, v4, -⟩ := row_cells hv.out.1
      go_wp2_with fail
      clear v0 v1 v2 v3 v4
      go_fit (unset_any V kv xv sv anv lnv cnv aiv liv civ (some ⟨go, 0, none⟩) co P _ hv.out.2 hO.out.reads (by omega) zP wVd.out)
      rintro e Y ⟨ku, xu, su, anu, lnu, cnu, aiu, liu, ciu, rfl, hv9, hbw⟩
      rw [hub.out]
      rw [hTU.out] at hv9
      replace hT := hT.keep (hbw.alloc hbw.size (.cells #[.int .i64 ku, .int .i64 xu, .string su, .slice anu lnu cnu, .slice aiu liu ciu] 25))
      replace hv := hid_f (hv.out.keep (hbw.alloc hbw.size (.cells #[.int .i64 ku, .int .i64 xu, .string su, .slice anu lnu cnu, .slice aiu liu ciu] 25)))
      replace hy := hid_f (hy.out.keep (hbw.alloc hbw.size (.cells #[.int .i64 ku, .int .i64 xu, .string su, .slice anu lnu cnu, .slice aiu liu ciu] 25)))
      replace ha := hid_f (ha.out.keep (hbw.alloc hbw.size (.cells #[.int .i64 ku, .int .i64 xu, .string su, .slice anu lnu cnu, .slice aiu liu ciu] 25)))
      replace hf := hid_f (hf.out.keep (hbw.alloc hbw.size (.cells #[.int .i64 ku, .int .i64 xu, .string su, .slice anu lnu cnu, .slice aiu liu ciu] 25)))
      replace hO := hid_f (hO.out.keep (hbw.alloc hbw.size (.cells #[.int .i64 ku, .int .i64 xu, .string su, .slice anu lnu cnu, .slice aiu liu ciu] 25)))
      have hu := hid_f (VB.new hv9)
      clear hv9 hbw
      go_upto_region 8 with fail
      generalize Y.alloc (.cells #[.int .i64 ku, .int .i64 xu, .string su, .slice anu lnu cnu, .slice aiu liu ciu] 25) = Wu at hT hv hy ha hf hu hO ⊢
      obtain ⟨gu, hq⟩ : ∃ g, Y.heap.size = g := ⟨_, rfl⟩
      rw [hq] at hu
      rw [hq]
      clear hq
      have c0 := Chg.cell hT (j := 0) rfl
      have c1 := Chg.cell hT (j := 1) rfl
      have c2 := Chg.cell hT (j := 2) rfl
      have c3 := Chg.cell hT (j := 3) rfl
      have c4 := Chg.cell hT (j := 4) rfl
      have c5 := Chg.cell hT (j := 5) rfl
      have c6 := Chg.cell hT (j := 6) rfl
      have c7 := Chg.cell hT (j := 7) rfl
      have c8 := Chg.cell hT (j := 8) rfl
      have c9 := Chg.cell hT (j := 9) rfl
      have c10 := Chg.cell hT (j := 10) rfl
      go_wp2_with fail
      clear c0 c1 c2 c3 c4 c5 c6 c7 c8 c9 c10
      go_fit ((runset_any w P V (five k1 x1 s1 (.slice an1 ln1 cn1) (.slice ai1 li1 ci1)) pp cp _ hT.below hV.out hP.out (by omega) zP.out wV.out).mono (fun e w' h => ru_rep h))
      rintro e Y ⟨kr, xr, sr, anr, lnr, cnr, air, lir, cir, rfl, hv9, hbw⟩
      rw [hub.out]
      rw [hTU.out] at hv9
      replace hT := hT.keep (hbw.alloc hbw.size (.cells #[.int .i64 kr, .int .i64 xr, .string sr, .slice anr lnr cnr, .slice air lir cir] 25))
      replace hv := hid_f (hv.out.keep (hbw.alloc hbw.size (.cells #[.int .i64 kr, .int .i64 xr, .string sr, .slice anr lnr cnr, .slice air lir cir] 25)))
      replace hy := hid_f (hy.out.keep (hbw.alloc hbw.size (.cells #[.int .i64 kr, .int .i64 xr, .string sr, .slice anr lnr cnr, .slice air lir cir] 25)))
      replace ha := hid_f (ha.out.keep (hbw.alloc hbw.size (.cells #[.int .i64 kr, .int .i64 xr, .string sr, .slice anr lnr cnr, .slice air lir cir] 25)))
      replace hf := hid_f (hf.out.keep (hbw.alloc hbw.size (.cells #[.int .i64 kr, .int .i64 xr, .string sr, .slice anr lnr cnr, .slice air lir cir] 25)))
      replace hu := hid_f (hu.out.keep (hbw.alloc hbw.size (.cells #[.int .i64 kr, .int .i64 xr, .string sr, .slice anr lnr cnr, .slice air lir cir] 25)))
      replace hO := hid_f (hO.out.keep (hbw.alloc hbw.size (.cells #[.int .i64 kr, .int .i64 xr, .string sr, .slice anr lnr cnr, .slice air lir cir] 25)))
      have hr := hid_f (VB.new hv9)
      clear hv9 hbw
      go_upto_region 9 with fail
      generalize Y.alloc (.cells #[.int .i64 kr, .int .i64 xr, .string sr, .slice anr lnr cnr, .slice air lir cir] 25) = Wr at hT hv hy ha hf hu hr hO ⊢
      obtain ⟨gr, hq⟩ : ∃ g, Y.heap.size = g := ⟨_, rfl⟩
      rw [hq] at hr
      rw [hq]
      clear hq
      have hdd : (da == da) = true := by simp
      have huu : (ub == ub) = true := by simp
      obtain ⟨a0, a1, a2, a3, a4, -⟩ := row_cells ha.out.1
      obtain ⟨f0, f1, f2, f3, f4, -⟩ := row_cells hf.out.1
      go_wp2_with (go_at_call 11; refine (num_any _ _).mono ?_; rintro e w9 ⟨rfl, rfl⟩)
      clear a0 a1 a2 a3 a4 f0 f1 f2 f3 f4
      go_fit (equal_law TS ka xa sa ana lna cna aia lia cia kf xf sf anf lnf cnf aif lif cif _ ha.out.2 hf.out.2)
      rintro e Z1 ⟨rfl, hb⟩
      replace hT := hT.keep (hb)
      replace hv := hid_f (hv.out.keep (hb))
      replace hy := hid_f (hy.out.keep (hb))
      replace ha := hid_f (ha.out.keep (hb))
      replace hf := hid_f (hf.out.keep (hb))
      replace hu := hid_f (hu.out.keep (hb))
      replace hr := hid_f (hr.out.keep (hb))
      replace hO := hid_f (hO.out.keep (hb))
      clear hb
      obtain ⟨u0, u1, u2, u3, u4, -⟩ := row_cells hu.out.1
      obtain ⟨r0, r1, r2, r3, r4, -⟩ := row_cells hr.out.1
      go_wp2_with fail
      clear u0 u1 u2 u3 u4 r0 r1 r2 r3 r4
      go_fit (equal_law TU ku xu su anu lnu cnu aiu liu ciu kr xr sr anr lnr cnr air lir cir _ hu.out.2 hr.out.2)
      rintro e Z2 ⟨rfl, hb⟩
      replace hT := hT.keep (hb)
      replace hv := hid_f (hv.out.keep (hb))
      replace hy := hid_f (hy.out.keep (hb))
      replace ha := hid_f (ha.out.keep (hb))
      replace hf := hid_f (hf.out.keep (hb))
      replace hu := hid_f (hu.out.keep (hb))
      replace hr := hid_f (hr.out.keep (hb))
      replace hO := hid_f (hO.out.keep (hb))
      clear hb
      have c0 := Chg.cell hT (j := 0) rfl
      have c1 := Chg.cell hT (j := 1) rfl
      have c2 := Chg.cell hT (j := 2) rfl
      have c3 := Chg.cell hT (j := 3) rfl
      have c4 := Chg.cell hT (j := 4) rfl
      have c5 := Chg.cell hT (j := 5) rfl
      have c6 := Chg.cell hT (j := 6) rfl
      have c7 := Chg.cell hT (j := 7) rfl
      have c8 := Chg.cell hT (j := 8) rfl
      have c9 := Chg.cell hT (j := 9) rfl
      have c10 := Chg.cell hT (j := 10) rfl
      go_wp2_with fail
      clear c0 c1 c2 c3 c4 c5 c6 c7 c8 c9 c10
      go_fit (kept_any _ (.slice (some ⟨go, 0, none⟩) P.length co) (.slice pp P.length cp) P _ hO.out (hP.out.keep hT.below) hl)
      rintro e Zk ⟨rfl, q9, rfl⟩
      have hb : Below Z2.heap.size Z2 (Z2.drewN q9) := below_drewN (Below.refl _ _) q9
      generalize Z2.drewN q9 = Zk at hb ⊢
      replace hT := hT.keep (hb)
      replace hv := hid_f (hv.out.keep (hb))
      replace hy := hid_f (hy.out.keep (hb))
      replace ha := hid_f (ha.out.keep (hb))
      replace hf := hid_f (hf.out.keep (hb))
      replace hu := hid_f (hu.out.keep (hb))
      replace hr := hid_f (hr.out.keep (hb))
      replace hO := hid_f (hO.out.keep (hb))
      clear hb
      have c0 := Chg.cell hT (j := 0) rfl
      have c1 := Chg.cell hT (j := 1) rfl
      have c2 := Chg.cell hT (j := 2) rfl
      have c3 := Chg.cell hT (j := 3) rfl
      have c4 := Chg.cell hT (j := 4) rfl
      have c5 := Chg.cell hT (j := 5) rfl
      have c6 := Chg.cell hT (j := 6) rfl
      have c7 := Chg.cell hT (j := 7) rfl
      have c8 := Chg.cell hT (j := 8) rfl
      have c9 := Chg.cell hT (j := 9) rfl
      have c10 := Chg.cell hT (j := 10) rfl
      obtain ⟨v0, v1, v2, v3, v4, -⟩ := row_cells hv.out.1
      go_wp2_with fail
      clear c0 c1 c2 c3 c4 c5 c6 c7 c8 c9 c10 v0 v1 v2 v3 v4
      go_fit (equal_law V kv xv sv anv lnv cnv aiv liv civ k1 x1 s1 an1 ln1 cn1 ai1 li1 ci1 _ hv.out.2 (VRep.keep hT.below _ _ hV.out))
      rintro e Z3 ⟨rfl, hb⟩
      replace hT := hT.keep (hb)
      replace hv := hid_f (hv.out.keep (hb))
      replace hy := hid_f (hy.out.keep (hb))
      replace ha := hid_f (ha.out.keep (hb))
      replace hf := hid_f (hf.out.keep (hb))
      replace hu := hid_f (hu.out.keep (hb))
      replace hr := hid_f (hr.out.keep (hb))
      replace hO := hid_f (hO.out.keep (hb))
      clear hb
      have c0 := Chg.cell hT (j := 0) rfl
      have c1 := Chg.cell hT (j := 1) rfl
      have c2 := Chg.cell hT (j := 2) rfl
      have c3 := Chg.cell hT (j := 3) rfl
      have c4 := Chg.cell hT (j := 4) rfl
      have c5 := Chg.cell hT (j := 5) rfl
      have c6 := Chg.cell hT (j := 6) rfl
      have c7 := Chg.cell hT (j := 7) rfl
      have c8 := Chg.cell hT (j := 8) rfl
      have c9 := Chg.cell hT (j := 9) rfl
      have c10 := Chg.cell hT (j := 10) rfl
      obtain ⟨y0, y1, y2, y3, y4, -⟩ := row_cells hy.out.1
      go_wp2_with fail
      clear c0 c1 c2 c3 c4 c5 c6 c7 c8 c9 c10 y0 y1 y2 y3 y4
      go_fit (equal_law X ky xy sy any lny cny aiy liy ciy k2 x2 s2 an2 ln2 cn2 ai2 li2 ci2 _ hy.out.2 (VRep.keep hT.below _ _ hX.out))
      rintro e Z4 ⟨rfl, hb⟩
      replace hT := hT.keep (hb)
      replace hv := hid_f (hv.out.keep (hb))
      replace hy := hid_f (hy.out.keep (hb))
      replace ha := hid_f (ha.out.keep (hb))
      replace hf := hid_f (hf.out.keep (hb))
      replace hu := hid_f (hu.out.keep (hb))
      replace hr := hid_f (hr.out.keep (hb))
      replace hO := hid_f (hO.out.keep (hb))
      clear hb
      go_wp2_with fail
      refine (live_true _).mono ?_
      rintro e Zl ⟨rfl, hb⟩
      replace hT := hT.keep (hb)
      replace hv := hid_f (hv.out.keep (hb))
      replace hy := hid_f (hy.out.keep (hb))
      replace ha := hid_f (ha.out.keep (hb))
      replace hf := hid_f (hf.out.keep (hb))
      replace hu := hid_f (hu.out.keep (hb))
      replace hr := hid_f (hr.out.keep (hb))
      replace hO := hid_f (hO.out.keep (hb))
      clear hb
      go_upto_region 11 with fail
      obtain ⟨v0, v1, v2, v3, v4, -⟩ := row_cells hv.out.1
      obtain ⟨y0, y1, y2, y3, y4, -⟩ := row_cells hy.out.1
      go_wp2_with fail
      clear v0 v1 v2 v3 v4 y0 y1 y2 y3 y4
      go_fit (setR_any V X kv xv sv anv lnv cnv aiv liv civ ky xy sy any lny cny aiy liy ciy (.slice (some ⟨go, 0, none⟩) P.length co) P _ hv.out.2 hy.out.2 hO.out.reads a1 zP.out wV.out)
      rintro e Y ⟨kd, xd, sd, and, lnd, cnd, aid, lid, cid, rfl, hv9, hbw⟩
      rw [hda.out]
      rw [hTS.out] at hv9
      replace hT := hT.keep (hbw.alloc hbw.size (.cells #[.int .i64 kd, .int .i64 xd, .string sd, .slice and lnd cnd, .slice aid lid cid] 25))
      replace hv := hid_f (hv.out.keep (hbw.alloc hbw.size (.cells #[.int .i64 kd, .int .i64 xd, .string sd, .slice and lnd cnd, .slice aid lid cid] 25)))
      replace hy := hid_f (hy.out.keep (hbw.alloc hbw.size (.cells #[.int .i64 kd, .int .i64 xd, .string sd, .slice and lnd cnd, .slice aid lid cid] 25)))
      replace ha := hid_f (ha.out.keep (hbw.alloc hbw.size (.cells #[.int .i64 kd, .int .i64 xd, .string sd, .slice and lnd cnd, .slice aid lid cid] 25)))
      replace hf := hid_f (hf.out.keep (hbw.alloc hbw.size (.cells #[.int .i64 kd, .int .i64 xd, .string sd, .slice and lnd cnd, .slice aid lid cid] 25)))
      replace hu := hid_f (hu.out.keep (hbw.alloc hbw.size (.cells #[.int .i64 kd, .int .i64 xd, .string sd, .slice and lnd cnd, .slice aid lid cid] 25)))
      replace hr := hid_f (hr.out.keep (hbw.alloc hbw.size (.cells #[.int .i64 kd, .int .i64 xd, .string sd, .slice and lnd cnd, .slice aid lid cid] 25)))
      replace hO := hid_f (hO.out.keep (hbw.alloc hbw.size (.cells #[.int .i64 kd, .int .i64 xd, .string sd, .slice and lnd cnd, .slice aid lid cid] 25)))
      have hd := hid_f (VB.new hv9)
      clear hv9 hbw
      go_upto_region 12 with fail
      generalize Y.alloc (.cells #[.int .i64 kd, .int .i64 xd, .string sd, .slice and lnd cnd, .slice aid lid cid] 25) = Wd at hT hv hy ha hf hu hr hd hO ⊢
      obtain ⟨gd, hq⟩ : ∃ g, Y.heap.size = g := ⟨_, rfl⟩
      rw [hq] at hd
      rw [hq]
      clear hq
      obtain ⟨v0, v1, v2, v3, v4, -⟩ := row_cells hv.out.1
      go_wp2_with fail
      clear v0 v1 v2 v3 v4
      go_fit (unset_any V kv xv sv anv lnv cnv aiv liv civ (some ⟨go, 0, none⟩) co P _ hv.out.2 hO.out.reads (by omega) zP wVd.out)
      rintro e Y ⟨kt, xt, st, ant, lnt, cnt, ait, lit, cit, rfl, hv9, hbw⟩
      rw [hub.out]
      rw [hTU.out] at hv9
      replace hT := hT.keep (hbw.alloc hbw.size (.cells #[.int .i64 kt, .int .i64 xt, .string st, .slice ant lnt cnt, .slice ait lit cit] 25))
      replace hv := hid_f (hv.out.keep (hbw.alloc hbw.size (.cells #[.int .i64 kt, .int .i64 xt, .string st, .slice ant lnt cnt, .slice ait lit cit] 25)))
      replace hy := hid_f (hy.out.keep (hbw.alloc hbw.size (.cells #[.int .i64 kt, .int .i64 xt, .string st, .slice ant lnt cnt, .slice ait lit cit] 25)))
      replace ha := hid_f (ha.out.keep (hbw.alloc hbw.size (.cells #[.int .i64 kt, .int .i64 xt, .string st, .slice ant lnt cnt, .slice ait lit cit] 25)))
      replace hf := hid_f (hf.out.keep (hbw.alloc hbw.size (.cells #[.int .i64 kt, .int .i64 xt, .string st, .slice ant lnt cnt, .slice ait lit cit] 25)))
      replace hu := hid_f (hu.out.keep (hbw.alloc hbw.size (.cells #[.int .i64 kt, .int .i64 xt, .string st, .slice ant lnt cnt, .slice ait lit cit] 25)))
      replace hr := hid_f (hr.out.keep (hbw.alloc hbw.size (.cells #[.int .i64 kt, .int .i64 xt, .string st, .slice ant lnt cnt, .slice ait lit cit] 25)))
      replace hd := hid_f (hd.out.keep (hbw.alloc hbw.size (.cells #[.int .i64 kt, .int .i64 xt, .string st, .slice ant lnt cnt, .slice ait lit cit] 25)))
      replace hO := hid_f (hO.out.keep (hbw.alloc hbw.size (.cells #[.int .i64 kt, .int .i64 xt, .string st, .slice ant lnt cnt, .slice ait lit cit] 25)))
      have ht := hid_f (VB.new hv9)
      clear hv9 hbw
      go_upto_region 13 with fail
      generalize Y.alloc (.cells #[.int .i64 kt, .int .i64 xt, .string st, .slice ant lnt cnt, .slice ait lit cit] 25) = Wt at hT hv hy ha hf hu hr hd ht hO ⊢
      obtain ⟨gt, hq⟩ : ∃ g, Y.heap.size = g := ⟨_, rfl⟩
      rw [hq] at ht
      rw [hq]
      clear hq
      obtain ⟨d0, d1, d2, d3, d4, -⟩ := row_cells hd.out.1
      obtain ⟨f0, f1, f2, f3, f4, -⟩ := row_cells hf.out.1
      go_wp2_with fail
      clear d0 d1 d2 d3 d4 f0 f1 f2 f3 f4
      go_fit (equal_law TS kd xd sd and lnd cnd aid lid cid kf xf sf anf lnf cnf aif lif cif _ hd.out.2 hf.out.2)
      rintro e Z5 ⟨rfl, hb⟩
      replace hT := hT.keep (hb)
      replace hv := hid_f (hv.out.keep (hb))
      replace hy := hid_f (hy.out.keep (hb))
      replace ha := hid_f (ha.out.keep (hb))
      replace hf := hid_f (hf.out.keep (hb))
      replace hu := hid_f (hu.out.keep (hb))
      replace hr := hid_f (hr.out.keep (hb))
      replace hd := hid_f (hd.out.keep (hb))
      replace ht := hid_f (ht.out.keep (hb))
      replace hO := hid_f (hO.out.keep (hb))
      clear hb
      obtain ⟨t0, t1, t2, t3, t4, -⟩ := row_cells ht.out.1
      obtain ⟨r0, r1, r2, r3, r4, -⟩ := row_cells hr.out.1
      go_wp2_with fail
      clear t0 t1 t2 t3 t4 r0 r1 r2 r3 r4
      go_fit (equal_law TU kt xt st ant lnt cnt ait lit cit kr xr sr anr lnr cnr air lir cir _ ht.out.2 hr.out.2)
      rintro e Z6 ⟨rfl, hb⟩
      replace hT := hT.keep (hb)
      replace hv := hid_f (hv.out.keep (hb))
      replace hy := hid_f (hy.out.keep (hb))
      replace ha := hid_f (ha.out.keep (hb))
      replace hf := hid_f (hf.out.keep (hb))
      replace hu := hid_f (hu.out.keep (hb))
      replace hr := hid_f (hr.out.keep (hb))
      replace hd := hid_f (hd.out.keep (hb))
      replace ht := hid_f (ht.out.keep (hb))
      replace hO := hid_f (hO.out.keep (hb))
      clear hb
      obtain ⟨a0, a1, a2, a3, a4, -⟩ := row_cells ha.out.1
      obtain ⟨f0, f1, f2, f3, f4, -⟩ := row_cells hf.out.1
      go_wp2_with fail
      clear a0 a1 a2 a3 a4 f0 f1 f2 f3 f4
      go_fit (equal_law TS ka xa sa ana lna cna aia lia cia kf xf sf anf lnf cnf aif lif cif _ ha.out.2 hf.out.2)
      rintro e Z7 ⟨rfl, hb⟩
      replace hT := hT.keep (hb)
      replace hv := hid_f (hv.out.keep (hb))
      replace hy := hid_f (hy.out.keep (hb))
      replace ha := hid_f (ha.out.keep (hb))
      replace hf := hid_f (hf.out.keep (hb))
      replace hu := hid_f (hu.out.keep (hb))
      replace hr := hid_f (hr.out.keep (hb))
      replace hd := hid_f (hd.out.keep (hb))
      replace ht := hid_f (ht.out.keep (hb))
      replace hO := hid_f (hO.out.keep (hb))
      clear hb
      obtain ⟨u0, u1, u2, u3, u4, -⟩ := row_cells hu.out.1
      obtain ⟨r0, r1, r2, r3, r4, -⟩ := row_cells hr.out.1
      go_wp2_with fail
      clear u0 u1 u2 u3 u4 r0 r1 r2 r3 r4
      go_fit (equal_law TU ku xu su anu lnu cnu aiu liu ciu kr xr sr anr lnr cnr air lir cir _ hu.out.2 hr.out.2)
      rintro e Z8 ⟨rfl, hb⟩
      replace hT := hT.keep (hb)
      replace hv := hid_f (hv.out.keep (hb))
      replace hy := hid_f (hy.out.keep (hb))
      replace ha := hid_f (ha.out.keep (hb))
      replace hf := hid_f (hf.out.keep (hb))
      replace hu := hid_f (hu.out.keep (hb))
      replace hr := hid_f (hr.out.keep (hb))
      replace hd := hid_f (hd.out.keep (hb))
      replace ht := hid_f (ht.out.keep (hb))
      replace hO := hid_f (hO.out.keep (hb))
      clear hb
      have c0 := Chg.cell hT (j := 0) rfl
      have c1 := Chg.cell hT (j := 1) rfl
      have c2 := Chg.cell hT (j := 2) rfl
      have c3 := Chg.cell hT (j := 3) rfl
      have c4 := Chg.cell hT (j := 4) rfl
      have c5 := Chg.cell hT (j := 5) rfl
      have c6 := Chg.cell hT (j := 6) rfl
      have c7 := Chg.cell hT (j := 7) rfl
      have c8 := Chg.cell hT (j := 8) rfl
      have c9 := Chg.cell hT (j := 9) rfl
      have c10 := Chg.cell hT (j := 10) rfl
      obtain ⟨v0, v1, v2, v3, v4, -⟩ := row_cells hv.out.1
      go_wp2_with fail
      clear c0 c1 c2 c3 c4 c5 c6 c7 c8 c9 c10 v0 v1 v2 v3 v4
      go_fit (equal_law V kv xv sv anv lnv cnv aiv liv civ k1 x1 s1 an1 ln1 cn1 ai1 li1 ci1 _ hv.out.2 (VRep.keep hT.below _ _ hV.out))
      rintro e Z9 ⟨rfl, hb⟩
      replace hT := hT.keep (hb)
      replace hv := hid_f (hv.out.keep (hb))
      replace hy := hid_f (hy.out.keep (hb))
      replace ha := hid_f (ha.out.keep (hb))
      replace hf := hid_f (hf.out.keep (hb))
      replace hu := hid_f (hu.out.keep (hb))
      replace hr := hid_f (hr.out.keep (hb))
      replace hd := hid_f (hd.out.keep (hb))
      replace ht := hid_f (ht.out.keep (hb))
      replace hO := hid_f (hO.out.keep (hb))
      clear hb
      have c0 := Chg.cell hT (j := 0) rfl
      have c1 := Chg.cell hT (j := 1) rfl
      have c2 := Chg.cell hT (j := 2) rfl
      have c3 := Chg.cell hT (j := 3) rfl
      have c4 := Chg.cell hT (j := 4) rfl
      have c5 := Chg.cell hT (j := 5) rfl
      have c6 := Chg.cell hT (j := 6) rfl
      have c7 := Chg.cell hT (j := 7) rfl
      have c8 := Chg.cell hT (j := 8) rfl
      have c9 := Chg.cell hT (j := 9) rfl
      have c10 := Chg.cell hT (j := 10) rfl
      obtain ⟨y0, y1, y2, y3, y4, -⟩ := row_cells hy.out.1
      go_wp2_with fail
      clear c0 c1 c2 c3 c4 c5 c6 c7 c8 c9 c10 y0 y1 y2 y3 y4
      go_fit (equal_law X ky xy sy any lny cny aiy liy ciy k2 x2 s2 an2 ln2 cn2 ai2 li2 ci2 _ hy.out.2 (VRep.keep hT.below _ _ hX.out))
      rintro e Z10 ⟨rfl, hb⟩
      replace hT := hT.keep (hb)
      replace hv := hid_f (hv.out.keep (hb))
      replace hy := hid_f (hy.out.keep (hb))
      replace ha := hid_f (ha.out.keep (hb))
      replace hf := hid_f (hf.out.keep (hb))
      replace hu := hid_f (hu.out.keep (hb))
      replace hr := hid_f (hr.out.keep (hb))
      replace hd := hid_f (hd.out.keep (hb))
      replace ht := hid_f (ht.out.keep (hb))
      replace hO := hid_f (hO.out.keep (hb))
      clear hb
      go_wp2_with fail
      go_ret
      exact ⟨rfl, hT.below⟩
end Go.Proofs.Ytmlbofbnklmedaa
