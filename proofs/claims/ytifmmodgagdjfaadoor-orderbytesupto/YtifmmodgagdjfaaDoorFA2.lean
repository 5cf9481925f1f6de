import Derived.Test.YtifmmodgagdjfaaDoorFA1
import Derived.Test.YtifmmodgagdjfaaDoorF4
/-! The document's laid: the bytes of every value that Check lets through. -/
namespace Go.Proofs.YtifmmodgagdjfaaDoor
open Go Go.RowKit

/-- What the walk asks of the items. -/
def RlaidOks (w0 : World) (lo : Nat) (its : List Tr) : Prop := ∀ (i : Nat) (u : Tr), its[i]? = some u → ∀ (cs : List Value) (W : World) (v : Value) (l : List UInt8), VRep w0 u cs → Below w0.heap.size w0 W → lo ≤ W.heap.size → W.ownsRow lo 5 1 v l.length (Lib.byteCells l) → l.length + 2 * (keyT u).length ≤ 100000000000 →
  Calls Tryd.prog 26 #[v, .agg cs.toArray] W (KeyPost lo W v (l ++ keyT u))
set_option maxHeartbeats 8000000 in
set_option maxRecDepth 100000 in
theorem rlaid_4 (x : Int) (s : ByteArray) (an : Option Addr) (ln cn : Nat) (ai : Option Addr) (li ci : Nat) (v : Value) (l : List UInt8) (lo : Nat) (w : World) (hlo : lo ≤ w.heap.size) (hown : Hid (w.ownsRow lo 5 1 v l.length (Lib.byteCells l))) (hb : l.length + 2 * (1 + (keyS s.data.toList).length) ≤ 100000000000) :
    Calls Tryd.prog 26 #[v, .agg #[.int .i64 4, .int .i64 x, .string s, .slice an ln cn, .slice ai li ci]] w (KeyPost lo w v (l ++ 32 :: keyS s.data.toList)) := by
  obtain ⟨i5, hi5, hz0, hz1, hz2⟩ := info_parts Q5
  have hbd : l.length + 1 ≤ maxLen ∧ (l.length + 1) * 1 ≤ 140737488355328 := by unfold maxLen; omega
  have hK0 := hid_e ((KeyAt.start hown.out).alloc (.cells #[.int .i64 4, .int .i64 x, .string s, .slice an ln cn, .slice ai li ci] 25))
  have n1 := heap_alloc_new w (.cells #[.int .i64 4, .int .i64 x, .string s, .slice an ln cn, .slice ai li ci] 25)
  go_enter Tryd.func26, Tryd.ntmps26
  go_upto_region 17 with fail
  generalize w.alloc (.cells #[.int .i64 4, .int .i64 x, .string s, .slice an ln cn, .slice ai li ci] 25) = X0 at n1 hK0 ⊢
  replace n1 : (X0).drew.heap[w.heap.size]? = some (.cells #[.int .i64 4, .int .i64 x, .string s, .slice an ln cn, .slice ai li ci] 25 (0, 0)) := n1
  replace hK0 := hid_e hK0.out.drew
  generalize hX : (X0).drew = X at n1 hK0
  refine wp_region_noPanic ?_
  refine Until.wp_region_U (fun w' => w'.heap[w.heap.size]? = some (.cells #[.int .i64 4, .int .i64 x, .string s, .slice an ln cn, .slice ai li ci] 25 (0, 0))) (fun _ => True) 6 (by kernel_rfl) ?_
  rw [hX]
  clear hX
  refine Until.wpU_pure (i := 0) (oi := { dst := some 50, op := Op.move (Operand.tmp 0), type := 27, pos := "ref.go:134", after := #[], guard := none }) (v := v) rfl (by kernel_rfl) (by kernel_rfl) (by kernel_rfl) (by kernel_rfl) (by kernel_rfl) (fun _ _ _ h => h) (n1) (fun _ => trivial) (by rfl) (by intro w'; go_simp) ?_
  try simp only [Act.put, List.setIfInBounds_toArray, List.set_cons_zero, List.set_cons_succ]
  refine Until.wpU_pure (i := 3) (oi := { dst := some 53, op := Op.fieldAddr 25 (Operand.tmp 3) 2, type := 0, pos := "ref.go:134", after := #[], guard := none }) (v := .pointer (some ⟨w.heap.size, 2, none⟩)) rfl (by kernel_rfl) (by kernel_rfl) (by kernel_rfl) (by kernel_rfl) (by kernel_rfl) (fun _ _ _ h => h) (n1) (fun _ => trivial) (by rfl) (by intro w'; go_simp) ?_
  try simp only [Act.put, List.setIfInBounds_toArray, List.set_cons_zero, List.set_cons_succ]
  refine Until.wpU_load0 (i := 4) (oi := { dst := some 54, op := Op.load 9 (Operand.tmp 53), type := 9, pos := "ref.go:134", after := #[{ on := 3, ground := Ground.data }], guard := none }) (v := .string s) rfl (by kernel_rfl) (by kernel_rfl) (by kernel_rfl) (by kernel_rfl) (by kernel_rfl) (fun _ _ _ h => h) (n1) (fun _ => trivial) (by rfl) (by intro w' hw'; obtain ⟨t0, t1, t2, t3, t4, -⟩ := row_cells hw'; go_simp) ?_
  try simp only [Act.put, List.setIfInBounds_toArray, List.set_cons_zero, List.set_cons_succ]
  refine Until.wpU_ready (rs := [1]) (by kernel_rfl) (by simp) ?_
  refine (Until.AllU.cons (o := { dst := some 51, op := Op.buildSlice 27 1 #[(0, Operand.const (Value.int IntKind.u8 32))], type := 27, pos := "ref.go:134", after := #[], guard := none }) rfl (fun K hK => ?_) Until.AllU.nil)
  go_simp
  have n2 := box_alloc n1 (.cells #[.int .u8 32] 5)
  refine hK.out _ _ (n2) (fun _ => trivial) ?_
  clear hK K
  try simp only [Act.put, List.setIfInBounds_toArray, List.set_cons_zero, List.set_cons_succ]
  refine Until.wpU_ready (rs := [2]) (by kernel_rfl) (by simp) ?_
  refine (Until.AllU.cons (o := { dst := some 52, op := Op.call { callee := Callee.builtin Builtin.append, args := #[Operand.tmp 50, Operand.tmp 51], argTypes := #[27, 27] }, type := 27, pos := "ref.go:134", after := #[{ on := 0, ground := Ground.data }, { on := 1, ground := Ground.data }], guard := none }) rfl (fun K hK => ?_) Until.AllU.nil)
  refine step_append_lies _ (by rfl) _ _ 27 (by rfl) lo 5 i5 _ 1 1 Tryd.underlying27 hi5 hz0 hz1 hz2 (by rfl) (by decide) (v) l.length _ (by rfl) (hK0.out.own.alloc _) ⟨X.heap.size, 0, none⟩ 1 1 [.int .u8 32] (by rfl) (by rfl) (World.news_of_block (heap_alloc_new X (.cells #[.int .u8 32] 5))) (fun u hu => by obtain rfl := List.mem_singleton.1 hu; rfl) (by decide) hbd.1 hbd.2 (by rw [World.size_alloc]; have := hK0.out.grown.size; omega) _ rfl ?_
  intro ga capa Wa hoa hgra hata hlta
  have n3 := box_stay (hK0.out.own.alloc _) hgra n2
  obtain ⟨la, hla⟩ : ∃ z, Hid (l ++ [32] = z) := ⟨_, hid_e rfl⟩
  have hna : Hid (l.length + 1 = la.length) := by rw [Hid, ← hla.out, List.length_append]; rfl
  have hKa : Hid (KeyAt lo w v.ownBlock Wa (.slice (some ⟨ga, 0, none⟩) la.length capa) la) := by
    rw [Hid, ← hna.out, ← hla.out]
    exact (hK0.out.alloc (.cells #[.int .u8 32] 5)).app rfl (by simp [Lib.byteCells]) hoa hgra hata
  rw [hna.out]
  clear hoa hgra hata hlta
  refine hK.out _ _ (n3) (fun _ => trivial) ?_
  clear hK K
  try simp only [Act.put, List.setIfInBounds_toArray, List.set_cons_zero, List.set_cons_succ]
  refine Until.wpU_ready (rs := [5]) (by kernel_rfl) (by simp) ?_
  refine (Until.AllU.cons (o := { dst := some 55, op := Op.call { callee := Callee.value (Operand.func 36), args := #[Operand.tmp 52, Operand.tmp 54], argTypes := #[27, 9] }, type := 27, pos := "ref.go:134", after := #[{ on := 2, ground := Ground.data }, { on := 4, ground := Ground.data }, { on := 2, ground := Ground.chain }], guard := none }) rfl (fun K hK => ?_) Until.AllU.nil)
  go_simp
  refine (rtext_code (.slice (some ⟨ga, 0, none⟩) la.length capa) la s lo Wa (Nat.le_trans hlo hKa.out.grown.size) (hid_e hKa.out.own) (by have h1 := hna.out; have h2 := keyS_len s.data.toList; rw [Array.length_toList] at h2; have h3 : s.data.size = s.size := rfl; omega)).mono ?_
  rintro e Wb ⟨kv, rfl, hKb⟩
  have n4 := box_stay hKa.out.own hKb.grown n3
  have hKc : Hid (KeyAt lo w v.ownBlock Wb kv (l ++ 32 :: keyS s.data.toList)) := by
    have e : l ++ 32 :: keyS s.data.toList = la ++ keyS s.data.toList := by rw [← hla.out]; simp
    rw [Hid, e]
    exact hKa.out.call hKb
  refine hK.out _ _ (n4) (fun _ => trivial) ?_
  clear hK K
  try simp only [Act.put, List.setIfInBounds_toArray, List.set_cons_zero, List.set_cons_succ]
  refine Until.wpU_ready (rs := [6]) (by kernel_rfl) (by simp) ?_
  refine (Until.AllU.cons (o := { dst := some 4, op := Op.assign (Operand.tmp 55), type := 27, pos := "ref.go:134", after := #[{ on := 5, ground := Ground.data }, { on := 5, ground := Ground.chain }, { on := 0, ground := Ground.phase }, { on := 1, ground := Ground.phase }, { on := 2, ground := Ground.phase }, { on := 3, ground := Ground.phase }, { on := 4, ground := Ground.phase }, { on := 5, ground := Ground.phase }], guard := none }) rfl (fun K hK => ?_) Until.AllU.nil)
  go_simp
  refine hK.out _ _ (n4) (fun _ => trivial) ?_
  clear hK K
  try simp only [Act.put, List.setIfInBounds_toArray, List.set_cons_zero, List.set_cons_succ]
  refine Until.wpU_done (by kernel_rfl) ?_ _
  refine NoPanic.normal ?_
  go_wp2_with fail
  go_ret
  exact ⟨_, rfl, hKc.out⟩
set_option maxHeartbeats 8000000 in
set_option maxRecDepth 100000 in
theorem rlaid_0 (x : Int) (s : ByteArray) (an : Option Addr) (ln cn : Nat) (ai : Option Addr) (li ci : Nat) (v : Value) (l : List UInt8) (lo : Nat) (w : World) (hlo : lo ≤ w.heap.size) (hown : Hid (w.ownsRow lo 5 1 v l.length (Lib.byteCells l))) (hb : l.length + 2 ≤ 100000000000) :
    Calls Tryd.prog 26 #[v, .agg #[.int .i64 0, .int .i64 x, .string s, .slice an ln cn, .slice ai li ci]] w (KeyPost lo w v (l ++ [5])) := by
  obtain ⟨i5, hi5, hz0, hz1, hz2⟩ := info_parts Q5
  have hbd : l.length + 1 ≤ maxLen ∧ (l.length + 1) * 1 ≤ 140737488355328 := by unfold maxLen; omega
  have hK0 := hid_e ((KeyAt.start hown.out).alloc (.cells #[.int .i64 0, .int .i64 x, .string s, .slice an ln cn, .slice ai li ci] 25))
  go_enter Tryd.func26, Tryd.ntmps26
  go_upto_region 3 with fail
  generalize w.alloc (.cells #[.int .i64 0, .int .i64 x, .string s, .slice an ln cn, .slice ai li ci] 25) = X0 at hK0 ⊢
  go_wp2_with (at_builtin; refine wpList_append_lies _ rfl _ _ 27 rfl lo 5 i5 _ 1 1 Tryd.underlying27 hi5 hz0 hz1 hz2 rfl (by decide) (v) l.length _ rfl (hK0.out.own.alloc _) ⟨X0.heap.size, 0, none⟩ 1 1 [.int .u8 5] rfl rfl (World.news_of_block (heap_alloc_new X0 (.cells #[.int .u8 5] 5))) (fun u hu => by obtain rfl := List.mem_singleton.1 hu; rfl) (by decide) hbd.1 hbd.2 (by rw [World.size_alloc]; have := hK0.out.grown.size; omega) _ rfl ?_; intro ga capa Wa hoa hgra hata hlta)
  obtain ⟨la, hla⟩ : ∃ z, Hid (l ++ [5] = z) := ⟨_, hid_e rfl⟩
  have hna : Hid (l.length + 1 = la.length) := by rw [Hid, ← hla.out, List.length_append]; rfl
  have hKa : Hid (KeyAt lo w v.ownBlock Wa (.slice (some ⟨ga, 0, none⟩) la.length capa) la) := by
    rw [Hid, ← hna.out, ← hla.out]
    exact (hK0.out.alloc (.cells #[.int .u8 5] 5)).app rfl (by simp [Lib.byteCells]) hoa hgra hata
  rw [hna.out]
  clear hoa hgra hata hlta
  go_wp2_with fail
  go_ret
  exact ⟨_, rfl, by rw [hla.out]; exact hKa.out⟩
set_option maxHeartbeats 8000000 in
set_option maxRecDepth 100000 in
theorem rlaid_1 (x : Int) (s : ByteArray) (an : Option Addr) (ln cn : Nat) (ai : Option Addr) (li ci : Nat) (v : Value) (l : List UInt8) (lo : Nat) (w : World) (hlo : lo ≤ w.heap.size) (hown : Hid (w.ownsRow lo 5 1 v l.length (Lib.byteCells l))) (hb : l.length + 2 ≤ 100000000000) :
    Calls Tryd.prog 26 #[v, .agg #[.int .i64 1, .int .i64 x, .string s, .slice an ln cn, .slice ai li ci]] w (KeyPost lo w v (l ++ [80])) := by
  obtain ⟨i5, hi5, hz0, hz1, hz2⟩ := info_parts Q5
  have hbd : l.length + 1 ≤ maxLen ∧ (l.length + 1) * 1 ≤ 140737488355328 := by unfold maxLen; omega
  have hK0 := hid_e ((KeyAt.start hown.out).alloc (.cells #[.int .i64 1, .int .i64 x, .string s, .slice an ln cn, .slice ai li ci] 25))
  go_enter Tryd.func26, Tryd.ntmps26
  go_upto_region 5 with fail
  generalize w.alloc (.cells #[.int .i64 1, .int .i64 x, .string s, .slice an ln cn, .slice ai li ci] 25) = X0 at hK0 ⊢
  go_wp2_with (at_builtin; refine wpList_append_lies _ rfl _ _ 27 rfl lo 5 i5 _ 1 1 Tryd.underlying27 hi5 hz0 hz1 hz2 rfl (by decide) (v) l.length _ rfl (hK0.out.own.alloc _) ⟨X0.heap.size, 0, none⟩ 1 1 [.int .u8 80] rfl rfl (World.news_of_block (heap_alloc_new X0 (.cells #[.int .u8 80] 5))) (fun u hu => by obtain rfl := List.mem_singleton.1 hu; rfl) (by decide) hbd.1 hbd.2 (by rw [World.size_alloc]; have := hK0.out.grown.size; omega) _ rfl ?_; intro ga capa Wa hoa hgra hata hlta)
  obtain ⟨la, hla⟩ : ∃ z, Hid (l ++ [80] = z) := ⟨_, hid_e rfl⟩
  have hna : Hid (l.length + 1 = la.length) := by rw [Hid, ← hla.out, List.length_append]; rfl
  have hKa : Hid (KeyAt lo w v.ownBlock Wa (.slice (some ⟨ga, 0, none⟩) la.length capa) la) := by
    rw [Hid, ← hna.out, ← hla.out]
    exact (hK0.out.alloc (.cells #[.int .u8 80] 5)).app rfl (by simp [Lib.byteCells]) hoa hgra hata
  rw [hna.out]
  clear hoa hgra hata hlta
  go_wp2_with fail
  go_ret
  exact ⟨_, rfl, by rw [hla.out]; exact hKa.out⟩
set_option maxHeartbeats 8000000 in
set_option maxRecDepth 100000 in
theorem rlaid_2 (x : Int) (s : ByteArray) (an : Option Addr) (ln cn : Nat) (ai : Option Addr) (li ci : Nat) (v : Value) (l : List UInt8) (lo : Nat) (w : World) (hlo : lo ≤ w.heap.size) (hown : Hid (w.ownsRow lo 5 1 v l.length (Lib.byteCells l))) (hb : l.length + 2 ≤ 100000000000) :
    Calls Tryd.prog 26 #[v, .agg #[.int .i64 2, .int .i64 x, .string s, .slice an ln cn, .slice ai li ci]] w (KeyPost lo w v (l ++ [81])) := by
  obtain ⟨i5, hi5, hz0, hz1, hz2⟩ := info_parts Q5
  have hbd : l.length + 1 ≤ maxLen ∧ (l.length + 1) * 1 ≤ 140737488355328 := by unfold maxLen; omega
  have hK0 := hid_e ((KeyAt.start hown.out).alloc (.cells #[.int .i64 2, .int .i64 x, .string s, .slice an ln cn, .slice ai li ci] 25))
  go_enter Tryd.func26, Tryd.ntmps26
  go_upto_region 7 with fail
  generalize w.alloc (.cells #[.int .i64 2, .int .i64 x, .string s, .slice an ln cn, .slice ai li ci] 25) = X0 at hK0 ⊢
  go_wp2_with (at_builtin; refine wpList_append_lies _ rfl _ _ 27 rfl lo 5 i5 _ 1 1 Tryd.underlying27 hi5 hz0 hz1 hz2 rfl (by decide) (v) l.length _ rfl (hK0.out.own.alloc _) ⟨X0.heap.size, 0, none⟩ 1 1 [.int .u8 81] rfl rfl (World.news_of_block (heap_alloc_new X0 (.cells #[.int .u8 81] 5))) (fun u hu => by obtain rfl := List.mem_singleton.1 hu; rfl) (by decide) hbd.1 hbd.2 (by rw [World.size_alloc]; have := hK0.out.grown.size; omega) _ rfl ?_; intro ga capa Wa hoa hgra hata hlta)
  obtain ⟨la, hla⟩ : ∃ z, Hid (l ++ [81] = z) := ⟨_, hid_e rfl⟩
  have hna : Hid (l.length + 1 = la.length) := by rw [Hid, ← hla.out, List.length_append]; rfl
  have hKa : Hid (KeyAt lo w v.ownBlock Wa (.slice (some ⟨ga, 0, none⟩) la.length capa) la) := by
    rw [Hid, ← hna.out, ← hla.out]
    exact (hK0.out.alloc (.cells #[.int .u8 81] 5)).app rfl (by simp [Lib.byteCells]) hoa hgra hata
  rw [hna.out]
  clear hoa hgra hata hlta
  go_wp2_with fail
  go_ret
  exact ⟨_, rfl, by rw [hla.out]; exact hKa.out⟩
set_option maxHeartbeats 8000000 in
set_option maxRecDepth 100000 in
theorem rlaid_3 (x : Int) (s : ByteArray) (an : Option Addr) (ln cn : Nat) (ai : Option Addr) (li ci : Nat) (v : Value) (l : List UInt8) (lo : Nat) (w : World) (hx : -9223372036854775808 ≤ x ∧ x ≤ 9223372036854775807) (hlo : lo ≤ w.heap.size) (hown : Hid (w.ownsRow lo 5 1 v l.length (Lib.byteCells l))) (hb : l.length + 2 * (1 + (keyN x).length) ≤ 100000000000) :
    Calls Tryd.prog 26 #[v, .agg #[.int .i64 3, .int .i64 x, .string s, .slice an ln cn, .slice ai li ci]] w (KeyPost lo w v (l ++ 16 :: keyN x)) := by
  obtain ⟨i5, hi5, hz0, hz1, hz2⟩ := info_parts Q5
  have hbd : l.length + 1 ≤ maxLen ∧ (l.length + 1) * 1 ≤ 140737488355328 := by unfold maxLen; omega
  obtain ⟨u, hu⟩ : ∃ u : Nat, Hid ((x + 9223372036854775808).toNat = u) := ⟨_, hid_e rfl⟩
  have hux : Hid (x + 9223372036854775808 = (u : Int)) := by rw [Hid, ← hu.out]; omega
  have hw := wrap_lift x hx
  rw [hux.out] at hw
  have hul : Hid (u < 256 ^ 8) := by have h1 := hux.out; rw [Hid]; omega
  have hkn : Hid (keyN x = be 8 u) := by unfold keyN; rw [Hid, hu.out]
  rw [hkn.out]
  replace hb : l.length ≤ 100000000000 := by omega
  have hK0 := hid_e ((KeyAt.start hown.out).alloc (.cells #[.int .i64 3, .int .i64 x, .string s, .slice an ln cn, .slice ai li ci] 25))
  have n1 := heap_alloc_new w (.cells #[.int .i64 3, .int .i64 x, .string s, .slice an ln cn, .slice ai li ci] 25)
  go_enter Tryd.func26, Tryd.ntmps26
  go_upto_region 9 with fail
  generalize w.alloc (.cells #[.int .i64 3, .int .i64 x, .string s, .slice an ln cn, .slice ai li ci] 25) = X0 at n1 hK0 ⊢
  go_upto_region 10 with (at_builtin; refine wpList_append_lies _ rfl _ _ 27 rfl lo 5 i5 _ 1 1 Tryd.underlying27 hi5 hz0 hz1 hz2 rfl (by decide) (v) l.length _ rfl (hK0.out.own.alloc _) ⟨X0.heap.size, 0, none⟩ 1 1 [.int .u8 16] rfl rfl (World.news_of_block (heap_alloc_new X0 (.cells #[.int .u8 16] 5))) (fun u hu => by obtain rfl := List.mem_singleton.1 hu; rfl) (by decide) hbd.1 hbd.2 (by rw [World.size_alloc]; have := hK0.out.grown.size; omega) _ rfl ?_; intro ga capa Wa hoa hgra hata hlta)
  have n2 := box_stay (hK0.out.own.alloc _) hgra (box_alloc n1 (.cells #[.int .u8 16] 5))
  obtain ⟨la, hla⟩ : ∃ z, Hid (l ++ [16] = z) := ⟨_, hid_e rfl⟩
  have hna : Hid (l.length + 1 = la.length) := by rw [Hid, ← hla.out, List.length_append]; rfl
  have hKa : Hid (KeyAt lo w v.ownBlock Wa (.slice (some ⟨ga, 0, none⟩) la.length capa) la) := by
    rw [Hid, ← hna.out, ← hla.out]
    exact (hK0.out.alloc (.cells #[.int .u8 16] 5)).app rfl (by simp [Lib.byteCells]) hoa hgra hata
  rw [hna.out]
  clear hoa hgra hata hlta n1 hK0 hbd
  have hKs : Hid (KeyAt lo w v.ownBlock Wa (.slice (some ⟨ga, 0, none⟩) la.length capa) (la ++ (be 8 u).take 0)) := by rw [List.take_zero, List.append_nil]; exact hKa
  obtain ⟨kv0, hkv0⟩ : ∃ z, Hid (Value.slice (some ⟨ga, 0, none⟩) la.length capa = z) := ⟨_, hid_e rfl⟩
  rw [hkv0.out] at hKs
  rw [hkv0.out]
  clear hkv0 hKa
  obtain ⟨-, y1, -, -, -, -⟩ := row_cells n2
  go_wp2_with fail
  clear y1 n2
  go_loopw [0, 6] (fun kv iv wr => ∃ i : Nat, i ≤ 8 ∧ iv = .int .i64 (7 - (i : Int)) ∧ Hid (KeyAt lo w v.ownBlock wr kv (la ++ (be 8 u).take i))) (fun _ iv _ => (intOf iv + 1).toNat)
  case atStart => exact ⟨0, Nat.zero_le _, rfl, hKs⟩
  case round =>
    clear hKs
    obtain ⟨i, hi, rfl, hK⟩ := hrel
    obtain ⟨lj, hlj⟩ : ∃ z, Hid (la ++ (be 8 u).take i = z) := ⟨_, hid_e rfl⟩
    rw [hlj.out] at hK
    have hll : lj.length ≤ 100000000009 := by
      rw [← hlj.out, List.length_append, ← hna.out]
      have h2 : ((be 8 u).take i).length ≤ i := by simp; omega
      omega
    have hbd : ∀ m : Nat, m ≤ 100 → lj.length + m ≤ maxLen ∧ (lj.length + m) * 1 ≤ 140737488355328 := fun m hm => by unfold maxLen; omega
    by_cases hlt : i < 8
    · have hcases : i = 0 ∨ i = 1 ∨ i = 2 ∨ i = 3 ∨ i = 4 ∨ i = 5 ∨ i = 6 ∨ i = 7 := by omega
      rcases hcases with rfl | rfl | rfl | rfl | rfl | rfl | rfl | rfl
      · have hnx := hid_e (be_next (i := 0) (D := 72057594037927936) hul.out (by decide) (by decide))
        obtain ⟨c, hc⟩ : ∃ c : Nat, Hid (u / 72057594037927936 % 256 = c) := ⟨_, hid_e rfl⟩
        rw [hc.out] at hnx
        have hq : (u : Int) / 72057594037927936 % 256 = (c : Int) := by have h1 := hc.out; omega
        have hc256 : c < 256 := by rw [← hc.out]; omega
        obtain ⟨b, hb0⟩ : ∃ z, Hid (UInt8.ofNat c = z) := ⟨_, hid_e rfl⟩
        have hbc : ((b.toNat : Nat) : Int) = (c : Int) := by rw [← hb0.out, UInt8.toNat_ofNat']; omega
        rw [hb0.out] at hnx
        rw [show (7 - ((0 : Nat) : Int)) = 7 from rfl]
        go_wp2_with (at_builtin; refine wpList_append_lies _ rfl _ _ 27 rfl lo 5 i5 _ 1 1 Tryd.underlying27 hi5 hz0 hz1 hz2 rfl (by decide) _ lj.length _ rfl (hK.out.own.alloc _) ⟨wr.heap.size, 0, none⟩ 1 1 [.int .u8 (c : Int)] rfl rfl (World.news_of_block (heap_alloc_new wr (.cells #[.int .u8 (c : Int)] 5))) (fun u hu => by obtain rfl := List.mem_singleton.1 hu; rfl) (by decide) (hbd 1 (by decide)).1 (hbd 1 (by decide)).2 (by rw [World.size_alloc]; have := hK.out.grown.size; omega) _ rfl ?_; intro gb capb Wb ho hgr hat hltb)
        obtain ⟨lb, hlb⟩ : ∃ z, Hid (lj ++ [b] = z) := ⟨_, hid_e rfl⟩
        have hnb : Hid (lj.length + 1 = lb.length) := by rw [Hid, ← hlb.out, List.length_append]; rfl
        have hKb : Hid (KeyAt lo w v.ownBlock Wb (.slice (some ⟨gb, 0, none⟩) lb.length capb) lb) := by
          rw [Hid, ← hnb.out, ← hlb.out]
          exact (hK.out.alloc (.cells #[.int .u8 (c : Int)] 5)).app rfl (by simp [Lib.byteCells, hbc]) ho hgr hat
        rw [hnb.out]
        clear ho hgr hat hltb
        have hK2 : Hid (KeyAt lo w v.ownBlock Wb (.slice (some ⟨gb, 0, none⟩) lb.length capb) (la ++ (be 8 u).take (0 + 1))) := by
          have e : la ++ (be 8 u).take (0 + 1) = lb := by rw [hnx.out, ← List.append_assoc, hlj.out, ← hlb.out]
          rw [Hid, e]
          exact hKb.out
        clear hq hbc
        go_wp2_with fail
        go_roundw
        case rel => exact ⟨0 + 1, by omega, by rfl, hK2⟩
        case measure => simp [intOf]
      · have hnx := hid_e (be_next (i := 1) (D := 281474976710656) hul.out (by decide) (by decide))
        obtain ⟨c, hc⟩ : ∃ c : Nat, Hid (u / 281474976710656 % 256 = c) := ⟨_, hid_e rfl⟩
        rw [hc.out] at hnx
        have hq : (u : Int) / 281474976710656 % 256 = (c : Int) := by have h1 := hc.out; omega
        have hc256 : c < 256 := by rw [← hc.out]; omega
        obtain ⟨b, hb0⟩ : ∃ z, Hid (UInt8.ofNat c = z) := ⟨_, hid_e rfl⟩
        have hbc : ((b.toNat : Nat) : Int) = (c : Int) := by rw [← hb0.out, UInt8.toNat_ofNat']; omega
        rw [hb0.out] at hnx
        rw [show (7 - ((1 : Nat) : Int)) = 6 from rfl]
        go_wp2_with (at_builtin; refine wpList_append_lies _ rfl _ _ 27 rfl lo 5 i5 _ 1 1 Tryd.underlying27 hi5 hz0 hz1 hz2 rfl (by decide) _ lj.length _ rfl (hK.out.own.alloc _) ⟨wr.heap.size, 0, none⟩ 1 1 [.int .u8 (c : Int)] rfl rfl (World.news_of_block (heap_alloc_new wr (.cells #[.int .u8 (c : Int)] 5))) (fun u hu => by obtain rfl := List.mem_singleton.1 hu; rfl) (by decide) (hbd 1 (by decide)).1 (hbd 1 (by decide)).2 (by rw [World.size_alloc]; have := hK.out.grown.size; omega) _ rfl ?_; intro gb capb Wb ho hgr hat hltb)
        obtain ⟨lb, hlb⟩ : ∃ z, Hid (lj ++ [b] = z) := ⟨_, hid_e rfl⟩
        have hnb : Hid (lj.length + 1 = lb.length) := by rw [Hid, ← hlb.out, List.length_append]; rfl
        have hKb : Hid (KeyAt lo w v.ownBlock Wb (.slice (some ⟨gb, 0, none⟩) lb.length capb) lb) := by
          rw [Hid, ← hnb.out, ← hlb.out]
          exact (hK.out.alloc (.cells #[.int .u8 (c : Int)] 5)).app rfl (by simp [Lib.byteCells, hbc]) ho hgr hat
        rw [hnb.out]
        clear ho hgr hat hltb
        have hK2 : Hid (KeyAt lo w v.ownBlock Wb (.slice (some ⟨gb, 0, none⟩) lb.length capb) (la ++ (be 8 u).take (1 + 1))) := by
          have e : la ++ (be 8 u).take (1 + 1) = lb := by rw [hnx.out, ← List.append_assoc, hlj.out, ← hlb.out]
          rw [Hid, e]
          exact hKb.out
        clear hq hbc
        go_wp2_with fail
        go_roundw
        case rel => exact ⟨1 + 1, by omega, by rfl, hK2⟩
        case measure => simp [intOf]
      · have hnx := hid_e (be_next (i := 2) (D := 1099511627776) hul.out (by decide) (by decide))
        obtain ⟨c, hc⟩ : ∃ c : Nat, Hid (u / 1099511627776 % 256 = c) := ⟨_, hid_e rfl⟩
        rw [hc.out] at hnx
        have hq : (u : Int) / 1099511627776 % 256 = (c : Int) := by have h1 := hc.out; omega
        have hc256 : c < 256 := by rw [← hc.out]; omega
        obtain ⟨b, hb0⟩ : ∃ z, Hid (UInt8.ofNat c = z) := ⟨_, hid_e rfl⟩
        have hbc : ((b.toNat : Nat) : Int) = (c : Int) := by rw [← hb0.out, UInt8.toNat_ofNat']; omega
        rw [hb0.out] at hnx
        rw [show (7 - ((2 : Nat) : Int)) = 5 from rfl]
        go_wp2_with (at_builtin; refine wpList_append_lies _ rfl _ _ 27 rfl lo 5 i5 _ 1 1 Tryd.underlying27 hi5 hz0 hz1 hz2 rfl (by decide) _ lj.length _ rfl (hK.out.own.alloc _) ⟨wr.heap.size, 0, none⟩ 1 1 [.int .u8 (c : Int)] rfl rfl (World.news_of_block (heap_alloc_new wr (.cells #[.int .u8 (c : Int)] 5))) (fun u hu => by obtain rfl := List.mem_singleton.1 hu; rfl) (by decide) (hbd 1 (by decide)).1 (hbd 1 (by decide)).2 (by rw [World.size_alloc]; have := hK.out.grown.size; omega) _ rfl ?_; intro gb capb Wb ho hgr hat hltb)
        obtain ⟨lb, hlb⟩ : ∃ z, Hid (lj ++ [b] = z) := ⟨_, hid_e rfl⟩
        have hnb : Hid (lj.length + 1 = lb.length) := by rw [Hid, ← hlb.out, List.length_append]; rfl
        have hKb : Hid (KeyAt lo w v.ownBlock Wb (.slice (some ⟨gb, 0, none⟩) lb.length capb) lb) := by
          rw [Hid, ← hnb.out, ← hlb.out]
          exact (hK.out.alloc (.cells #[.int .u8 (c : Int)] 5)).app rfl (by simp [Lib.byteCells, hbc]) ho hgr hat
        rw [hnb.out]
        clear ho hgr hat hltb
        have hK2 : Hid (KeyAt lo w v.ownBlock Wb (.slice (some ⟨gb, 0, none⟩) lb.length capb) (la ++ (be 8 u).take (2 + 1))) := by
          have e : la ++ (be 8 u).take (2 + 1) = lb := by rw [hnx.out, ← List.append_assoc, hlj.out, ← hlb.out]
          rw [Hid, e]
          exact hKb.out
        clear hq hbc
        go_wp2_with fail
        go_roundw
        case rel => exact ⟨2 + 1, by omega, by rfl, hK2⟩
        case measure => simp [intOf]
      · have hnx := hid_e (be_next (i := 3) (D := 4294967296) hul.out (by decide) (by decide))
        obtain ⟨c, hc⟩ : ∃ c : Nat, Hid (u / 4294967296 % 256 = c) := ⟨_, hid_e rfl⟩
        rw [hc.out] at hnx
        have hq : (u : Int) / 4294967296 % 256 = (c : Int) := by have h1 := hc.out; omega
        have hc256 : c < 256 := by rw [← hc.out]; omega
        obtain ⟨b, hb0⟩ : ∃ z, Hid (UInt8.ofNat c = z) := ⟨_, hid_e rfl⟩
        have hbc : ((b.toNat : Nat) : Int) = (c : Int) := by rw [← hb0.out, UInt8.toNat_ofNat']; omega
        rw [hb0.out] at hnx
        rw [show (7 - ((3 : Nat) : Int)) = 4 from rfl]
        go_wp2_with (at_builtin; refine wpList_append_lies _ rfl _ _ 27 rfl lo 5 i5 _ 1 1 Tryd.underlying27 hi5 hz0 hz1 hz2 rfl (by decide) _ lj.length _ rfl (hK.out.own.alloc _) ⟨wr.heap.size, 0, none⟩ 1 1 [.int .u8 (c : Int)] rfl rfl (World.news_of_block (heap_alloc_new wr (.cells #[.int .u8 (c : Int)] 5))) (fun u hu => by obtain rfl := List.mem_singleton.1 hu; rfl) (by decide) (hbd 1 (by decide)).1 (hbd 1 (by decide)).2 (by rw [World.size_alloc]; have := hK.out.grown.size; omega) _ rfl ?_; intro gb capb Wb ho hgr hat hltb)
        obtain ⟨lb, hlb⟩ : ∃ z, Hid (lj ++ [b] = z) := ⟨_, hid_e rfl⟩
        have hnb : Hid (lj.length + 1 = lb.length) := by rw [Hid, ← hlb.out, List.length_append]; rfl
        have hKb : Hid (KeyAt lo w v.ownBlock Wb (.slice (some ⟨gb, 0, none⟩) lb.length capb) lb) := by
          rw [Hid, ← hnb.out, ← hlb.out]
          exact (hK.out.alloc (.cells #[.int .u8 (c : Int)] 5)).app rfl (by simp [Lib.byteCells, hbc]) ho hgr hat
        rw [hnb.out]
        clear ho hgr hat hltb
        have hK2 : Hid (KeyAt lo w v.ownBlock Wb (.slice (some ⟨gb, 0, none⟩) lb.length capb) (la ++ (be 8 u).take (3 + 1))) := by
          have e : la ++ (be 8 u).take (3 + 1) = lb := by rw [hnx.out, ← List.append_assoc, hlj.out, ← hlb.out]
          rw [Hid, e]
          exact hKb.out
        clear hq hbc
        go_wp2_with fail
        go_roundw
        case rel => exact ⟨3 + 1, by omega, by rfl, hK2⟩
        case measure => simp [intOf]
      · have hnx := hid_e (be_next (i := 4) (D := 16777216) hul.out (by decide) (by decide))
        obtain ⟨c, hc⟩ : ∃ c : Nat, Hid (u / 16777216 % 256 = c) := ⟨_, hid_e rfl⟩
        rw [hc.out] at hnx
        have hq : (u : Int) / 16777216 % 256 = (c : Int) := by have h1 := hc.out; omega
        have hc256 : c < 256 := by rw [← hc.out]; omega
        obtain ⟨b, hb0⟩ : ∃ z, Hid (UInt8.ofNat c = z) := ⟨_, hid_e rfl⟩
        have hbc : ((b.toNat : Nat) : Int) = (c : Int) := by rw [← hb0.out, UInt8.toNat_ofNat']; omega
        rw [hb0.out] at hnx
        rw [show (7 - ((4 : Nat) : Int)) = 3 from rfl]
        go_wp2_with (at_builtin; refine wpList_append_lies _ rfl _ _ 27 rfl lo 5 i5 _ 1 1 Tryd.underlying27 hi5 hz0 hz1 hz2 rfl (by decide) _ lj.length _ rfl (hK.out.own.alloc _) ⟨wr.heap.size, 0, none⟩ 1 1 [.int .u8 (c : Int)] rfl rfl (World.news_of_block (heap_alloc_new wr (.cells #[.int .u8 (c : Int)] 5))) (fun u hu => by obtain rfl := List.mem_singleton.1 hu; rfl) (by decide) (hbd 1 (by decide)).1 (hbd 1 (by decide)).2 (by rw [World.size_alloc]; have := hK.out.grown.size; omega) _ rfl ?_; intro gb capb Wb ho hgr hat hltb)
        obtain ⟨lb, hlb⟩ : ∃ z, Hid (lj ++ [b] = z) := ⟨_, hid_e rfl⟩
        have hnb : Hid (lj.length + 1 = lb.length) := by rw [Hid, ← hlb.out, List.length_append]; rfl
        have hKb : Hid (KeyAt lo w v.ownBlock Wb (.slice (some ⟨gb, 0, none⟩) lb.length capb) lb) := by
          rw [Hid, ← hnb.out, ← hlb.out]
          exact (hK.out.alloc (.cells #[.int .u8 (c : Int)] 5)).app rfl (by simp [Lib.byteCells, hbc]) ho hgr hat
        rw [hnb.out]
        clear ho hgr hat hltb
        have hK2 : Hid (KeyAt lo w v.ownBlock Wb (.slice (some ⟨gb, 0, none⟩) lb.length capb) (la ++ (be 8 u).take (4 + 1))) := by
          have e : la ++ (be 8 u).take (4 + 1) = lb := by rw [hnx.out, ← List.append_assoc, hlj.out, ← hlb.out]
          rw [Hid, e]
          exact hKb.out
        clear hq hbc
        go_wp2_with fail
        go_roundw
        case rel => exact ⟨4 + 1, by omega, by rfl, hK2⟩
        case measure => simp [intOf]
      · have hnx := hid_e (be_next (i := 5) (D := 65536) hul.out (by decide) (by decide))
        obtain ⟨c, hc⟩ : ∃ c : Nat, Hid (u / 65536 % 256 = c) := ⟨_, hid_e rfl⟩
        rw [hc.out] at hnx
        have hq : (u : Int) / 65536 % 256 = (c : Int) := by have h1 := hc.out; omega
        have hc256 : c < 256 := by rw [← hc.out]; omega
        obtain ⟨b, hb0⟩ : ∃ z, Hid (UInt8.ofNat c = z) := ⟨_, hid_e rfl⟩
        have hbc : ((b.toNat : Nat) : Int) = (c : Int) := by rw [← hb0.out, UInt8.toNat_ofNat']; omega
        rw [hb0.out] at hnx
        rw [show (7 - ((5 : Nat) : Int)) = 2 from rfl]
        go_wp2_with (at_builtin; refine wpList_append_lies _ rfl _ _ 27 rfl lo 5 i5 _ 1 1 Tryd.underlying27 hi5 hz0 hz1 hz2 rfl (by decide) _ lj.length _ rfl (hK.out.own.alloc _) ⟨wr.heap.size, 0, none⟩ 1 1 [.int .u8 (c : Int)] rfl rfl (World.news_of_block (heap_alloc_new wr (.cells #[.int .u8 (c : Int)] 5))) (fun u hu => by obtain rfl := List.mem_singleton.1 hu; rfl) (by decide) (hbd 1 (by decide)).1 (hbd 1 (by decide)).2 (by rw [World.size_alloc]; have := hK.out.grown.size; omega) _ rfl ?_; intro gb capb Wb ho hgr hat hltb)
        obtain ⟨lb, hlb⟩ : ∃ z, Hid (lj ++ [b] = z) := ⟨_, hid_e rfl⟩
        have hnb : Hid (lj.length + 1 = lb.length) := by rw [Hid, ← hlb.out, List.length_append]; rfl
        have hKb : Hid (KeyAt lo w v.ownBlock Wb (.slice (some ⟨gb, 0, none⟩) lb.length capb) lb) := by
          rw [Hid, ← hnb.out, ← hlb.out]
          exact (hK.out.alloc (.cells #[.int .u8 (c : Int)] 5)).app rfl (by simp [Lib.byteCells, hbc]) ho hgr hat
        rw [hnb.out]
        clear ho hgr hat hltb
        have hK2 : Hid (KeyAt lo w v.ownBlock Wb (.slice (some ⟨gb, 0, none⟩) lb.length capb) (la ++ (be 8 u).take (5 + 1))) := by
          have e : la ++ (be 8 u).take (5 + 1) = lb := by rw [hnx.out, ← List.append_assoc, hlj.out, ← hlb.out]
          rw [Hid, e]
          exact hKb.out
        clear hq hbc
        go_wp2_with fail
        go_roundw
        case rel => exact ⟨5 + 1, by omega, by rfl, hK2⟩
        case measure => simp [intOf]
      · have hnx := hid_e (be_next (i := 6) (D := 256) hul.out (by decide) (by decide))
        obtain ⟨c, hc⟩ : ∃ c : Nat, Hid (u / 256 % 256 = c) := ⟨_, hid_e rfl⟩
        rw [hc.out] at hnx
        have hq : (u : Int) / 256 % 256 = (c : Int) := by have h1 := hc.out; omega
        have hc256 : c < 256 := by rw [← hc.out]; omega
        obtain ⟨b, hb0⟩ : ∃ z, Hid (UInt8.ofNat c = z) := ⟨_, hid_e rfl⟩
        have hbc : ((b.toNat : Nat) : Int) = (c : Int) := by rw [← hb0.out, UInt8.toNat_ofNat']; omega
        rw [hb0.out] at hnx
        rw [show (7 - ((6 : Nat) : Int)) = 1 from rfl]
        go_wp2_with (at_builtin; refine wpList_append_lies _ rfl _ _ 27 rfl lo 5 i5 _ 1 1 Tryd.underlying27 hi5 hz0 hz1 hz2 rfl (by decide) _ lj.length _ rfl (hK.out.own.alloc _) ⟨wr.heap.size, 0, none⟩ 1 1 [.int .u8 (c : Int)] rfl rfl (World.news_of_block (heap_alloc_new wr (.cells #[.int .u8 (c : Int)] 5))) (fun u hu => by obtain rfl := List.mem_singleton.1 hu; rfl) (by decide) (hbd 1 (by decide)).1 (hbd 1 (by decide)).2 (by rw [World.size_alloc]; have := hK.out.grown.size; omega) _ rfl ?_; intro gb capb Wb ho hgr hat hltb)
        obtain ⟨lb, hlb⟩ : ∃ z, Hid (lj ++ [b] = z) := ⟨_, hid_e rfl⟩
        have hnb : Hid (lj.length + 1 = lb.length) := by rw [Hid, ← hlb.out, List.length_append]; rfl
        have hKb : Hid (KeyAt lo w v.ownBlock Wb (.slice (some ⟨gb, 0, none⟩) lb.length capb) lb) := by
          rw [Hid, ← hnb.out, ← hlb.out]
          exact (hK.out.alloc (.cells #[.int .u8 (c : Int)] 5)).app rfl (by simp [Lib.byteCells, hbc]) ho hgr hat
        rw [hnb.out]
        clear ho hgr hat hltb
        have hK2 : Hid (KeyAt lo w v.ownBlock Wb (.slice (some ⟨gb, 0, none⟩) lb.length capb) (la ++ (be 8 u).take (6 + 1))) := by
          have e : la ++ (be 8 u).take (6 + 1) = lb := by rw [hnx.out, ← List.append_assoc, hlj.out, ← hlb.out]
          rw [Hid, e]
          exact hKb.out
        clear hq hbc
        go_wp2_with fail
        go_roundw
        case rel => exact ⟨6 + 1, by omega, by rfl, hK2⟩
        case measure => simp [intOf]
      · have hnx := hid_e (be_next (i := 7) (D := 1) hul.out (by decide) (by decide))
        obtain ⟨c, hc⟩ : ∃ c : Nat, Hid (u / 1 % 256 = c) := ⟨_, hid_e rfl⟩
        rw [hc.out] at hnx
        have hq : (u : Int) % 256 = (c : Int) := by have h1 := hc.out; omega
        have hc256 : c < 256 := by rw [← hc.out]; omega
        obtain ⟨b, hb0⟩ : ∃ z, Hid (UInt8.ofNat c = z) := ⟨_, hid_e rfl⟩
        have hbc : ((b.toNat : Nat) : Int) = (c : Int) := by rw [← hb0.out, UInt8.toNat_ofNat']; omega
        rw [hb0.out] at hnx
        rw [show (7 - ((7 : Nat) : Int)) = 0 from rfl]
        go_wp2_with (at_builtin; refine wpList_append_lies _ rfl _ _ 27 rfl lo 5 i5 _ 1 1 Tryd.underlying27 hi5 hz0 hz1 hz2 rfl (by decide) _ lj.length _ rfl (hK.out.own.alloc _) ⟨wr.heap.size, 0, none⟩ 1 1 [.int .u8 (c : Int)] rfl rfl (World.news_of_block (heap_alloc_new wr (.cells #[.int .u8 (c : Int)] 5))) (fun u hu => by obtain rfl := List.mem_singleton.1 hu; rfl) (by decide) (hbd 1 (by decide)).1 (hbd 1 (by decide)).2 (by rw [World.size_alloc]; have := hK.out.grown.size; omega) _ rfl ?_; intro gb capb Wb ho hgr hat hltb)
        obtain ⟨lb, hlb⟩ : ∃ z, Hid (lj ++ [b] = z) := ⟨_, hid_e rfl⟩
        have hnb : Hid (lj.length + 1 = lb.length) := by rw [Hid, ← hlb.out, List.length_append]; rfl
        have hKb : Hid (KeyAt lo w v.ownBlock Wb (.slice (some ⟨gb, 0, none⟩) lb.length capb) lb) := by
          rw [Hid, ← hnb.out, ← hlb.out]
          exact (hK.out.alloc (.cells #[.int .u8 (c : Int)] 5)).app rfl (by simp [Lib.byteCells, hbc]) ho hgr hat
        rw [hnb.out]
        clear ho hgr hat hltb
        have hK2 : Hid (KeyAt lo w v.ownBlock Wb (.slice (some ⟨gb, 0, none⟩) lb.length capb) (la ++ (be 8 u).take (7 + 1))) := by
          have e : la ++ (be 8 u).take (7 + 1) = lb := by rw [hnx.out, ← List.append_assoc, hlj.out, ← hlb.out]
          rw [Hid, e]
          exact hKb.out
        clear hq hbc
        go_wp2_with fail
        go_roundw
        case rel => exact ⟨7 + 1, by omega, by rfl, hK2⟩
        case measure => simp [intOf]
    · obtain rfl : i = 8 := by omega
      have hK2 : Hid (KeyAt lo w v.ownBlock wr u0 (l ++ 16 :: be 8 u)) := by
        have e : l ++ 16 :: be 8 u = lj := by rw [← hlj.out, ← hla.out, List.take_of_length_le (by rw [be_len]; exact Nat.le_refl _)]; simp
        rw [Hid, e]
        exact hK.out
      rw [show (7 - ((8 : Nat) : Int)) = -1 from rfl]
      go_wp2_with fail
      go_ret
      exact ⟨_, rfl, hK2.out⟩
end Go.Proofs.YtifmmodgagdjfaaDoor
