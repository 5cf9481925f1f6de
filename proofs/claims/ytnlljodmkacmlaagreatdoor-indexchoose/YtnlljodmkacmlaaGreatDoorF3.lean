import Derived.Test.YtnlljodmkacmlaaGreatDoorF2
import Derived.Test.YtnlljodmkacmlaaGreatDoorC2
/-! order's laid: the bytes of every value that Check lets through. -/
namespace Go.Proofs.YtnlljodmkacmlaaGreatDoor.Chk
open Go Go.RowKit

theorem own_ne {lo : Nat} {w : World} {kv : Value} {n g : Nat} {xs : List Value} {b : Array Value} (h : w.ownsRow lo 5 1 kv n xs) (hx : w.heap[g]? = some (.cells b 28 (0, 0))) : kv.ownBlock ≠ some g := by
  intro e
  rcases h.2 with ⟨hv, _⟩ | ⟨g', cap', cur, hv, hg, hh, _⟩
  · subst hv; simp [Value.ownBlock] at e
  · subst hv
    have : g' = g := by simpa [Value.ownBlock] using e
    subst this
    rw [hx] at hh
    simp at hh
theorem KeyAt.below {lo : Nat} {w0 w wr : World} {v kv : Value} {l l' : List UInt8} (h : KeyAt lo w v.ownBlock wr kv l) (hB : Below w0.heap.size w0 w) (hl0 : w0.heap.size ≤ lo) (hown : w.ownsRow lo 5 1 v l'.length (Lib.byteCells l')) : Below w0.heap.size w0 wr :=
  hB.trans (grown_below h.grown hB.size (fun _ hg => Nat.le_trans hl0 (ownsRow_ge hown hg).1))
theorem KeyAt.call {lo : Nat} {w0 wr w' : World} {b0 : Option Nat} {kv kv' : Value} {l l' : List UInt8} (h : KeyAt lo w0 b0 wr kv l) (h' : KeyAt lo wr kv.ownBlock w' kv' l') : KeyAt lo w0 b0 w' kv' l' := h.step h'.own h'.grown h'.pos
theorem box_stay {lo : Nat} {wr w' : World} {kv : Value} {n g : Nat} {xs : List Value} {b : Array Value} (h : wr.ownsRow lo 5 1 kv n xs) (hg : wr.grownBy w' kv.ownBlock) (hx : wr.heap[g]? = some (.cells b 28 (0, 0))) : w'.heap[g]? = some (.cells b 28 (0, 0)) :=
  (hg.block g (Array.getElem?_eq_some_iff.1 hx).1 (fun e => own_ne h hx e.symm)).trans hx
theorem box_alloc {wr : World} {g : Nat} {b : Array Value} (hx : wr.heap[g]? = some (.cells b 28 (0, 0))) (o : Obj) : (wr.alloc o).heap[g]? = some (.cells b 28 (0, 0)) := (alloc_old (Array.getElem?_eq_some_iff.1 hx).1).trans hx
theorem keyS_len (s : List UInt8) : s.length + 2 ≤ (keyS s).length := by
  unfold keyS
  rw [List.length_append]
  have : s.length ≤ (s.flatMap keyB).length := by
    induction s with
    | nil => simp
    | cons b t ih =>
      rw [List.flatMap_cons, List.length_append, List.length_cons]
      have : 1 ≤ (keyB b).length := by unfold keyB; split <;> simp
      omega
  simp only [List.length_cons, List.length_nil]
  omega
theorem kyL_acc (its : List Tr) : kyL its = its.flatMap (fun t => 2 :: keyT t) ++ [1] := by
  induction its with
  | nil => rw [kyL]; rfl
  | cons t ts ih => rw [kyL, ih, List.flatMap_cons]; simp
theorem kyM_acc : (ns : List ByteArray) → (its : List Tr) → ns.length = its.length → kyM ns its = (ns.zip its).flatMap (fun p => 2 :: (keyS p.1.data.toList ++ keyT p.2)) ++ [1]
  | [], [], _ => by rw [ky_nil]; rfl
  | n :: ns, t :: ts, h => by rw [kyM, kyM_acc ns ts (by simpa using h), List.zip_cons_cons, List.flatMap_cons]; simp
theorem flat_next {α : Type} (f : α → List UInt8) {l : List α} {i : Nat} {u : α} (h : l[i]? = some u) : (l.take (i + 1)).flatMap f = (l.take i).flatMap f ++ f u := by
  rw [List.take_add_one, h, List.flatMap_append]
  simp
theorem flat_mono {α : Type} (f : α → List UInt8) (l : List α) (i : Nat) : ((l.take i).flatMap f).length ≤ (l.flatMap f).length := by
  have h : (l.flatMap f).length = ((l.take i ++ l.drop i).flatMap f).length := by rw [List.take_append_drop]
  rw [h, List.flatMap_append, List.length_append]
  omega
/-- What the walk asks of the items. -/
def LaidOks (w0 : World) (lo : Nat) (its : List Tr) : Prop := ∀ (i : Nat) (u : Tr), its[i]? = some u → ∀ (cs : List Value) (W : World) (v : Value) (l : List UInt8), VRep w0 u cs → Below w0.heap.size w0 W → lo ≤ W.heap.size → W.ownsRow lo 5 1 v l.length (Lib.byteCells l) → l.length + 2 * (keyT u).length ≤ 100000000000 →
  Calls Tryz.prog 134 #[v, .agg cs.toArray] W (KeyPost lo W v (l ++ keyT u))
set_option maxHeartbeats 8000000 in
set_option maxRecDepth 100000 in
theorem laid_3 (x : Int) (s : ByteArray) (an : Option Addr) (ln cn : Nat) (ai : Option Addr) (li ci : Nat) (v : Value) (l : List UInt8) (lo : Nat) (w : World) (hx : -9223372036854775808 ≤ x ∧ x ≤ 9223372036854775807) (hlo : lo ≤ w.heap.size) (hown : Hid (w.ownsRow lo 5 1 v l.length (Lib.byteCells l))) (hb : l.length + 2 * (1 + (keyN x).length) ≤ 100000000000) :
    Calls Tryz.prog 134 #[v, .agg #[.int .i64 3, .int .i64 x, .string s, .slice an ln cn, .slice ai li ci]] w (KeyPost lo w v (l ++ 16 :: keyN x)) := by
  obtain ⟨i5, hi5, hz0, hz1, hz2⟩ := info_parts Q5
  have hbd : l.length + 1 ≤ maxLen ∧ (l.length + 1) * 1 ≤ 140737488355328 := by unfold maxLen; omega
  have hK0 := hid_e ((KeyAt.start hown.out).alloc (.cells #[.int .i64 3, .int .i64 x, .string s, .slice an ln cn, .slice ai li ci] 28))
  have n1 := heap_alloc_new w (.cells #[.int .i64 3, .int .i64 x, .string s, .slice an ln cn, .slice ai li ci] 28)
  go_enter Tryz.func134, Tryz.ntmps134
  go_upto_region 3 with fail
  generalize w.alloc (.cells #[.int .i64 3, .int .i64 x, .string s, .slice an ln cn, .slice ai li ci] 28) = X0 at n1 hK0 ⊢
  replace n1 : (X0).drew.heap[w.heap.size]? = some (.cells #[.int .i64 3, .int .i64 x, .string s, .slice an ln cn, .slice ai li ci] 28 (0, 0)) := n1
  replace hK0 := hid_e hK0.out.drew
  generalize hX : (X0).drew = X at n1 hK0
  refine wp_region_noPanic ?_
  refine Until.wp_region_U (fun w' => w'.heap[w.heap.size]? = some (.cells #[.int .i64 3, .int .i64 x, .string s, .slice an ln cn, .slice ai li ci] 28 (0, 0))) (fun _ => True) 6 (by kernel_rfl) ?_
  rw [hX]
  clear hX
  refine Until.wpU_pure (i := 0) (oi := { dst := some 13, op := Op.move (Operand.tmp 0), type := 158, pos := "key.go:44", after := #[], guard := none }) (v := v) rfl (by kernel_rfl) (by kernel_rfl) (by kernel_rfl) (by kernel_rfl) (by kernel_rfl) (fun _ _ _ h => h) (n1) (fun _ => trivial) (by rfl) (by intro w'; go_simp) ?_
  try simp only [Act.put, List.setIfInBounds_toArray, List.set_cons_zero, List.set_cons_succ]
  refine Until.wpU_pure (i := 3) (oi := { dst := some 16, op := Op.fieldAddr 28 (Operand.tmp 3) 1, type := 0, pos := "key.go:44", after := #[], guard := none }) (v := .pointer (some ⟨w.heap.size, 1, none⟩)) rfl (by kernel_rfl) (by kernel_rfl) (by kernel_rfl) (by kernel_rfl) (by kernel_rfl) (fun _ _ _ h => h) (n1) (fun _ => trivial) (by rfl) (by intro w'; go_simp) ?_
  try simp only [Act.put, List.setIfInBounds_toArray, List.set_cons_zero, List.set_cons_succ]
  refine Until.wpU_load0 (i := 4) (oi := { dst := some 17, op := Op.load 2 (Operand.tmp 16), type := 2, pos := "key.go:44", after := #[{ on := 3, ground := Ground.data }], guard := none }) (v := .int .i64 x) rfl (by kernel_rfl) (by kernel_rfl) (by kernel_rfl) (by kernel_rfl) (by kernel_rfl) (fun _ _ _ h => h) (n1) (fun _ => trivial) (by rfl) (by intro w' hw'; obtain ⟨t0, t1, t2, t3, t4, -⟩ := row_cells hw'; go_simp) ?_
  try simp only [Act.put, List.setIfInBounds_toArray, List.set_cons_zero, List.set_cons_succ]
  refine Until.wpU_ready (rs := [1]) (by kernel_rfl) (by simp) ?_
  refine (Until.AllU.cons (o := { dst := some 14, op := Op.buildSlice 158 1 #[(0, Operand.const (Value.int IntKind.u8 16))], type := 158, pos := "key.go:44", after := #[], guard := none }) rfl (fun K hK => ?_) Until.AllU.nil)
  go_simp
  have n2 := box_alloc n1 (.cells #[.int .u8 16] 5)
  refine hK.out _ _ (n2) (fun _ => trivial) ?_
  clear hK K
  try simp only [Act.put, List.setIfInBounds_toArray, List.set_cons_zero, List.set_cons_succ]
  refine Until.wpU_ready (rs := [2]) (by kernel_rfl) (by simp) ?_
  refine (Until.AllU.cons (o := { dst := some 15, op := Op.call { callee := Callee.builtin Builtin.append, args := #[Operand.tmp 13, Operand.tmp 14], argTypes := #[158, 158] }, type := 158, pos := "key.go:44", after := #[{ on := 0, ground := Ground.data }, { on := 1, ground := Ground.data }], guard := none }) rfl (fun K hK => ?_) Until.AllU.nil)
  refine step_append_lies _ (by rfl) _ _ 158 (by rfl) lo 5 i5 _ 1 1 Tryz.underlying158 hi5 hz0 hz1 hz2 (by rfl) (by decide) (v) l.length _ (by rfl) (hK0.out.own.alloc _) ⟨X.heap.size, 0, none⟩ 1 1 [.int .u8 16] (by rfl) (by rfl) (World.news_of_block (heap_alloc_new X (.cells #[.int .u8 16] 5))) (fun u hu => by obtain rfl := List.mem_singleton.1 hu; rfl) (by decide) hbd.1 hbd.2 (by rw [World.size_alloc]; have := hK0.out.grown.size; omega) _ rfl ?_
  intro ga capa Wa hoa hgra hata hlta
  have n3 := box_stay (hK0.out.own.alloc _) hgra n2
  obtain ⟨la, hla⟩ : ∃ z, Hid (l ++ [16] = z) := ⟨_, hid_e rfl⟩
  have hna : Hid (l.length + 1 = la.length) := by rw [Hid, ← hla.out, List.length_append]; rfl
  have hKa : Hid (KeyAt lo w v.ownBlock Wa (.slice (some ⟨ga, 0, none⟩) la.length capa) la) := by
    rw [Hid, ← hna.out, ← hla.out]
    exact (hK0.out.alloc (.cells #[.int .u8 16] 5)).app rfl (by simp [Lib.byteCells]) hoa hgra hata
  rw [hna.out]
  clear hoa hgra hata hlta
  refine hK.out _ _ (n3) (fun _ => trivial) ?_
  clear hK K
  try simp only [Act.put, List.setIfInBounds_toArray, List.set_cons_zero, List.set_cons_succ]
  refine Until.wpU_ready (rs := [5]) (by kernel_rfl) (by simp) ?_
  refine (Until.AllU.cons (o := { dst := some 18, op := Op.call { callee := Callee.value (Operand.func 149), args := #[Operand.tmp 15, Operand.tmp 17], argTypes := #[158, 2] }, type := 158, pos := "key.go:44", after := #[{ on := 2, ground := Ground.data }, { on := 4, ground := Ground.data }, { on := 2, ground := Ground.chain }], guard := none }) rfl (fun K hK => ?_) Until.AllU.nil)
  go_simp
  refine (number_code (.slice (some ⟨ga, 0, none⟩) la.length capa) la x lo Wa hx (Nat.le_trans hlo hKa.out.grown.size) (hid_e hKa.out.own) (by have := hna.out; omega)).mono ?_
  rintro e Wb ⟨kv, rfl, hKb⟩
  have n4 := box_stay hKa.out.own hKb.grown n3
  have hKc : Hid (KeyAt lo w v.ownBlock Wb kv (l ++ 16 :: keyN x)) := by
    have e : l ++ 16 :: keyN x = la ++ keyN x := by rw [← hla.out]; simp
    rw [Hid, e]
    exact hKa.out.call hKb
  refine hK.out _ _ (n4) (fun _ => trivial) ?_
  clear hK K
  try simp only [Act.put, List.setIfInBounds_toArray, List.set_cons_zero, List.set_cons_succ]
  refine Until.wpU_ready (rs := [6]) (by kernel_rfl) (by simp) ?_
  refine (Until.AllU.cons (o := { dst := some 4, op := Op.assign (Operand.tmp 18), type := 158, pos := "key.go:44", after := #[{ on := 5, ground := Ground.data }, { on := 5, ground := Ground.chain }, { on := 0, ground := Ground.phase }, { on := 1, ground := Ground.phase }, { on := 2, ground := Ground.phase }, { on := 3, ground := Ground.phase }, { on := 4, ground := Ground.phase }, { on := 5, ground := Ground.phase }], guard := none }) rfl (fun K hK => ?_) Until.AllU.nil)
  go_simp
  refine hK.out _ _ (n4) (fun _ => trivial) ?_
  clear hK K
  try simp only [Act.put, List.setIfInBounds_toArray, List.set_cons_zero, List.set_cons_succ]
  refine Until.wpU_done (by kernel_rfl) ?_ _
  refine NoPanic.normal ?_
  go_wp2_with fail
  go_ret
  exact ⟨_, rfl, hKc.out⟩
set_option maxHeartbeats 8000000 in
set_option maxRecDepth 100000 in
theorem laid_4 (x : Int) (s : ByteArray) (an : Option Addr) (ln cn : Nat) (ai : Option Addr) (li ci : Nat) (v : Value) (l : List UInt8) (lo : Nat) (w : World) (hlo : lo ≤ w.heap.size) (hown : Hid (w.ownsRow lo 5 1 v l.length (Lib.byteCells l))) (hb : l.length + 2 * (1 + (keyS s.data.toList).length) ≤ 100000000000) :
    Calls Tryz.prog 134 #[v, .agg #[.int .i64 4, .int .i64 x, .string s, .slice an ln cn, .slice ai li ci]] w (KeyPost lo w v (l ++ 32 :: keyS s.data.toList)) := by
  obtain ⟨i5, hi5, hz0, hz1, hz2⟩ := info_parts Q5
  have hbd : l.length + 1 ≤ maxLen ∧ (l.length + 1) * 1 ≤ 140737488355328 := by unfold maxLen; omega
  have hK0 := hid_e ((KeyAt.start hown.out).alloc (.cells #[.int .i64 4, .int .i64 x, .string s, .slice an ln cn, .slice ai li ci] 28))
  have n1 := heap_alloc_new w (.cells #[.int .i64 4, .int .i64 x, .string s, .slice an ln cn, .slice ai li ci] 28)
  go_enter Tryz.func134, Tryz.ntmps134
  go_upto_region 5 with fail
  generalize w.alloc (.cells #[.int .i64 4, .int .i64 x, .string s, .slice an ln cn, .slice ai li ci] 28) = X0 at n1 hK0 ⊢
  replace n1 : (X0).drew.heap[w.heap.size]? = some (.cells #[.int .i64 4, .int .i64 x, .string s, .slice an ln cn, .slice ai li ci] 28 (0, 0)) := n1
  replace hK0 := hid_e hK0.out.drew
  generalize hX : (X0).drew = X at n1 hK0
  refine wp_region_noPanic ?_
  refine Until.wp_region_U (fun w' => w'.heap[w.heap.size]? = some (.cells #[.int .i64 4, .int .i64 x, .string s, .slice an ln cn, .slice ai li ci] 28 (0, 0))) (fun _ => True) 6 (by kernel_rfl) ?_
  rw [hX]
  clear hX
  refine Until.wpU_pure (i := 0) (oi := { dst := some 21, op := Op.move (Operand.tmp 0), type := 158, pos := "key.go:46", after := #[], guard := none }) (v := v) rfl (by kernel_rfl) (by kernel_rfl) (by kernel_rfl) (by kernel_rfl) (by kernel_rfl) (fun _ _ _ h => h) (n1) (fun _ => trivial) (by rfl) (by intro w'; go_simp) ?_
  try simp only [Act.put, List.setIfInBounds_toArray, List.set_cons_zero, List.set_cons_succ]
  refine Until.wpU_pure (i := 3) (oi := { dst := some 24, op := Op.fieldAddr 28 (Operand.tmp 3) 2, type := 0, pos := "key.go:46", after := #[], guard := none }) (v := .pointer (some ⟨w.heap.size, 2, none⟩)) rfl (by kernel_rfl) (by kernel_rfl) (by kernel_rfl) (by kernel_rfl) (by kernel_rfl) (fun _ _ _ h => h) (n1) (fun _ => trivial) (by rfl) (by intro w'; go_simp) ?_
  try simp only [Act.put, List.setIfInBounds_toArray, List.set_cons_zero, List.set_cons_succ]
  refine Until.wpU_load0 (i := 4) (oi := { dst := some 25, op := Op.load 9 (Operand.tmp 24), type := 9, pos := "key.go:46", after := #[{ on := 3, ground := Ground.data }], guard := none }) (v := .string s) rfl (by kernel_rfl) (by kernel_rfl) (by kernel_rfl) (by kernel_rfl) (by kernel_rfl) (fun _ _ _ h => h) (n1) (fun _ => trivial) (by rfl) (by intro w' hw'; obtain ⟨t0, t1, t2, t3, t4, -⟩ := row_cells hw'; go_simp) ?_
  try simp only [Act.put, List.setIfInBounds_toArray, List.set_cons_zero, List.set_cons_succ]
  refine Until.wpU_ready (rs := [1]) (by kernel_rfl) (by simp) ?_
  refine (Until.AllU.cons (o := { dst := some 22, op := Op.buildSlice 158 1 #[(0, Operand.const (Value.int IntKind.u8 32))], type := 158, pos := "key.go:46", after := #[], guard := none }) rfl (fun K hK => ?_) Until.AllU.nil)
  go_simp
  have n2 := box_alloc n1 (.cells #[.int .u8 32] 5)
  refine hK.out _ _ (n2) (fun _ => trivial) ?_
  clear hK K
  try simp only [Act.put, List.setIfInBounds_toArray, List.set_cons_zero, List.set_cons_succ]
  refine Until.wpU_ready (rs := [2]) (by kernel_rfl) (by simp) ?_
  refine (Until.AllU.cons (o := { dst := some 23, op := Op.call { callee := Callee.builtin Builtin.append, args := #[Operand.tmp 21, Operand.tmp 22], argTypes := #[158, 158] }, type := 158, pos := "key.go:46", after := #[{ on := 0, ground := Ground.data }, { on := 1, ground := Ground.data }], guard := none }) rfl (fun K hK => ?_) Until.AllU.nil)
  refine step_append_lies _ (by rfl) _ _ 158 (by rfl) lo 5 i5 _ 1 1 Tryz.underlying158 hi5 hz0 hz1 hz2 (by rfl) (by decide) (v) l.length _ (by rfl) (hK0.out.own.alloc _) ⟨X.heap.size, 0, none⟩ 1 1 [.int .u8 32] (by rfl) (by rfl) (World.news_of_block (heap_alloc_new X (.cells #[.int .u8 32] 5))) (fun u hu => by obtain rfl := List.mem_singleton.1 hu; rfl) (by decide) hbd.1 hbd.2 (by rw [World.size_alloc]; have := hK0.out.grown.size; omega) _ rfl ?_
  intro ga capa Wa hoa hgra hata hlta
  have n3 := box_stay (hK0.out.own.alloc _) hgra n2
  obtain ⟨la, hla⟩ : ∃ z, Hid (l ++ [32] = z) := ⟨_, hid_e rfl⟩
  have hna : Hid (l.length + 1 = la.length) := by rw [Hid, ← hla.out, List.length_append]; rfl
  have hKa : Hid (KeyAt lo w v.ownBlock Wa (.slice (some ⟨ga, 0, none⟩) la.length capa) la) := by
    rw [Hid, ← hna.out, ← hla.out]
    exact (hK0.out.alloc (.cells #[.int .u8 32] 5)).app rfl (by simp [Lib.byteCells]) hoa hgra hata
  rw [hna.out]
  clear hoa hgra hata hlta
  refine hK.out _ _ (n3) (fun _ => trivial) ?_
  clear hK K
  try simp only [Act.put, List.setIfInBounds_toArray, List.set_cons_zero, List.set_cons_succ]
  refine Until.wpU_ready (rs := [5]) (by kernel_rfl) (by simp) ?_
  refine (Until.AllU.cons (o := { dst := some 26, op := Op.call { callee := Callee.value (Operand.func 150), args := #[Operand.tmp 23, Operand.tmp 25], argTypes := #[158, 9] }, type := 158, pos := "key.go:46", after := #[{ on := 2, ground := Ground.data }, { on := 4, ground := Ground.data }, { on := 2, ground := Ground.chain }], guard := none }) rfl (fun K hK => ?_) Until.AllU.nil)
  go_simp
  refine (text_code (.slice (some ⟨ga, 0, none⟩) la.length capa) la s lo Wa (Nat.le_trans hlo hKa.out.grown.size) (hid_e hKa.out.own) (by have h1 := hna.out; have h2 := keyS_len s.data.toList; rw [Array.length_toList] at h2; have h3 : s.data.size = s.size := rfl; omega)).mono ?_
  rintro e Wb ⟨kv, rfl, hKb⟩
  have n4 := box_stay hKa.out.own hKb.grown n3
  have hKc : Hid (KeyAt lo w v.ownBlock Wb kv (l ++ 32 :: keyS s.data.toList)) := by
    have e : l ++ 32 :: keyS s.data.toList = la ++ keyS s.data.toList := by rw [← hla.out]; simp
    rw [Hid, e]
    exact hKa.out.call hKb
  refine hK.out _ _ (n4) (fun _ => trivial) ?_
  clear hK K
  try simp only [Act.put, List.setIfInBounds_toArray, List.set_cons_zero, List.set_cons_succ]
  refine Until.wpU_ready (rs := [6]) (by kernel_rfl) (by simp) ?_
  refine (Until.AllU.cons (o := { dst := some 4, op := Op.assign (Operand.tmp 26), type := 158, pos := "key.go:46", after := #[{ on := 5, ground := Ground.data }, { on := 5, ground := Ground.chain }, { on := 0, ground := Ground.phase }, { on := 1, ground := Ground.phase }, { on := 2, ground := Ground.phase }, { on := 3, ground := Ground.phase }, { on := 4, ground := Ground.phase }, { on := 5, ground := Ground.phase }], guard := none }) rfl (fun K hK => ?_) Until.AllU.nil)
  go_simp
  refine hK.out _ _ (n4) (fun _ => trivial) ?_
  clear hK K
  try simp only [Act.put, List.setIfInBounds_toArray, List.set_cons_zero, List.set_cons_succ]
  refine Until.wpU_done (by kernel_rfl) ?_ _
  refine NoPanic.normal ?_
  go_wp2_with fail
  go_ret
  exact ⟨_, rfl, hKc.out⟩
set_option maxHeartbeats 8000000 in
set_option maxRecDepth 100000 in
theorem laid_0 (x : Int) (s : ByteArray) (an : Option Addr) (ln cn : Nat) (ai : Option Addr) (li ci : Nat) (v : Value) (l : List UInt8) (lo : Nat) (w : World) (hlo : lo ≤ w.heap.size) (hown : Hid (w.ownsRow lo 5 1 v l.length (Lib.byteCells l))) (hb : l.length + 2 ≤ 100000000000) :
    Calls Tryz.prog 134 #[v, .agg #[.int .i64 0, .int .i64 x, .string s, .slice an ln cn, .slice ai li ci]] w (KeyPost lo w v (l ++ [5])) := by
  obtain ⟨i5, hi5, hz0, hz1, hz2⟩ := info_parts Q5
  have hbd : l.length + 1 ≤ maxLen ∧ (l.length + 1) * 1 ≤ 140737488355328 := by unfold maxLen; omega
  have hK0 := hid_e ((KeyAt.start hown.out).alloc (.cells #[.int .i64 0, .int .i64 x, .string s, .slice an ln cn, .slice ai li ci] 28))
  go_enter Tryz.func134, Tryz.ntmps134
  go_upto_region 27 with fail
  generalize w.alloc (.cells #[.int .i64 0, .int .i64 x, .string s, .slice an ln cn, .slice ai li ci] 28) = X0 at hK0 ⊢
  go_wp2_with (at_builtin; refine wpList_append_lies _ rfl _ _ 158 rfl lo 5 i5 _ 1 1 Tryz.underlying158 hi5 hz0 hz1 hz2 rfl (by decide) (v) l.length _ rfl (hK0.out.own.alloc _) ⟨X0.heap.size, 0, none⟩ 1 1 [.int .u8 5] rfl rfl (World.news_of_block (heap_alloc_new X0 (.cells #[.int .u8 5] 5))) (fun u hu => by obtain rfl := List.mem_singleton.1 hu; rfl) (by decide) hbd.1 hbd.2 (by rw [World.size_alloc]; have := hK0.out.grown.size; omega) _ rfl ?_; intro ga capa Wa hoa hgra hata hlta)
  obtain ⟨la, hla⟩ : ∃ z, Hid (l ++ [5] = z) := ⟨_, hid_e rfl⟩
  have hna : Hid (l.length + 1 = la.length) := by rw [Hid, ← hla.out, List.length_append]; rfl
  have hKa : Hid (KeyAt lo w v.ownBlock Wa (.slice (some ⟨ga, 0, none⟩) la.length capa) la) := by
    rw [Hid, ← hna.out, ← hla.out]
    exact (hK0.out.alloc (.cells #[.int .u8 5] 5)).app rfl (by simp [Lib.byteCells]) hoa hgra hata
  rw [hna.out]
  clear hoa hgra hata hlta
  go_wp2_with fail
  go_ret
  exact ⟨_, rfl, by rw [hla.out]; exact hKa.out⟩
set_option maxHeartbeats 8000000 in
set_option maxRecDepth 100000 in
theorem laid_1 (x : Int) (s : ByteArray) (an : Option Addr) (ln cn : Nat) (ai : Option Addr) (li ci : Nat) (v : Value) (l : List UInt8) (lo : Nat) (w : World) (hlo : lo ≤ w.heap.size) (hown : Hid (w.ownsRow lo 5 1 v l.length (Lib.byteCells l))) (hb : l.length + 2 ≤ 100000000000) :
    Calls Tryz.prog 134 #[v, .agg #[.int .i64 1, .int .i64 x, .string s, .slice an ln cn, .slice ai li ci]] w (KeyPost lo w v (l ++ [80])) := by
  obtain ⟨i5, hi5, hz0, hz1, hz2⟩ := info_parts Q5
  have hbd : l.length + 1 ≤ maxLen ∧ (l.length + 1) * 1 ≤ 140737488355328 := by unfold maxLen; omega
  have hK0 := hid_e ((KeyAt.start hown.out).alloc (.cells #[.int .i64 1, .int .i64 x, .string s, .slice an ln cn, .slice ai li ci] 28))
  go_enter Tryz.func134, Tryz.ntmps134
  go_upto_region 24 with fail
  generalize w.alloc (.cells #[.int .i64 1, .int .i64 x, .string s, .slice an ln cn, .slice ai li ci] 28) = X0 at hK0 ⊢
  go_wp2_with (at_builtin; refine wpList_append_lies _ rfl _ _ 158 rfl lo 5 i5 _ 1 1 Tryz.underlying158 hi5 hz0 hz1 hz2 rfl (by decide) (v) l.length _ rfl (hK0.out.own.alloc _) ⟨X0.heap.size, 0, none⟩ 1 1 [.int .u8 80] rfl rfl (World.news_of_block (heap_alloc_new X0 (.cells #[.int .u8 80] 5))) (fun u hu => by obtain rfl := List.mem_singleton.1 hu; rfl) (by decide) hbd.1 hbd.2 (by rw [World.size_alloc]; have := hK0.out.grown.size; omega) _ rfl ?_; intro ga capa Wa hoa hgra hata hlta)
  obtain ⟨la, hla⟩ : ∃ z, Hid (l ++ [80] = z) := ⟨_, hid_e rfl⟩
  have hna : Hid (l.length + 1 = la.length) := by rw [Hid, ← hla.out, List.length_append]; rfl
  have hKa : Hid (KeyAt lo w v.ownBlock Wa (.slice (some ⟨ga, 0, none⟩) la.length capa) la) := by
    rw [Hid, ← hna.out, ← hla.out]
    exact (hK0.out.alloc (.cells #[.int .u8 80] 5)).app rfl (by simp [Lib.byteCells]) hoa hgra hata
  rw [hna.out]
  clear hoa hgra hata hlta
  go_wp2_with fail
  go_ret
  exact ⟨_, rfl, by rw [hla.out]; exact hKa.out⟩
set_option maxHeartbeats 8000000 in
set_option maxRecDepth 100000 in
theorem laid_2 (x : Int) (s : ByteArray) (an : Option Addr) (ln cn : Nat) (ai : Option Addr) (li ci : Nat) (v : Value) (l : List UInt8) (lo : Nat) (w : World) (hlo : lo ≤ w.heap.size) (hown : Hid (w.ownsRow lo 5 1 v l.length (Lib.byteCells l))) (hb : l.length + 2 ≤ 100000000000) :
    Calls Tryz.prog 134 #[v, .agg #[.int .i64 2, .int .i64 x, .string s, .slice an ln cn, .slice ai li ci]] w (KeyPost lo w v (l ++ [81])) := by
  obtain ⟨i5, hi5, hz0, hz1, hz2⟩ := info_parts Q5
  have hbd : l.length + 1 ≤ maxLen ∧ (l.length + 1) * 1 ≤ 140737488355328 := by unfold maxLen; omega
  have hK0 := hid_e ((KeyAt.start hown.out).alloc (.cells #[.int .i64 2, .int .i64 x, .string s, .slice an ln cn, .slice ai li ci] 28))
  go_enter Tryz.func134, Tryz.ntmps134
  go_upto_region 26 with fail
  generalize w.alloc (.cells #[.int .i64 2, .int .i64 x, .string s, .slice an ln cn, .slice ai li ci] 28) = X0 at hK0 ⊢
  go_wp2_with (at_builtin; refine wpList_append_lies _ rfl _ _ 158 rfl lo 5 i5 _ 1 1 Tryz.underlying158 hi5 hz0 hz1 hz2 rfl (by decide) (v) l.length _ rfl (hK0.out.own.alloc _) ⟨X0.heap.size, 0, none⟩ 1 1 [.int .u8 81] rfl rfl (World.news_of_block (heap_alloc_new X0 (.cells #[.int .u8 81] 5))) (fun u hu => by obtain rfl := List.mem_singleton.1 hu; rfl) (by decide) hbd.1 hbd.2 (by rw [World.size_alloc]; have := hK0.out.grown.size; omega) _ rfl ?_; intro ga capa Wa hoa hgra hata hlta)
  obtain ⟨la, hla⟩ : ∃ z, Hid (l ++ [81] = z) := ⟨_, hid_e rfl⟩
  have hna : Hid (l.length + 1 = la.length) := by rw [Hid, ← hla.out, List.length_append]; rfl
  have hKa : Hid (KeyAt lo w v.ownBlock Wa (.slice (some ⟨ga, 0, none⟩) la.length capa) la) := by
    rw [Hid, ← hna.out, ← hla.out]
    exact (hK0.out.alloc (.cells #[.int .u8 81] 5)).app rfl (by simp [Lib.byteCells]) hoa hgra hata
  rw [hna.out]
  clear hoa hgra hata hlta
  go_wp2_with fail
  go_ret
  exact ⟨_, rfl, by rw [hla.out]; exact hKa.out⟩
end Go.Proofs.YtnlljodmkacmlaaGreatDoor.Chk
