import Derived.Test.YtnlljodmkacmlaaGreatDoorF3
/-! order's laid: lists, objects, every value. -/
namespace Go.Proofs.YtnlljodmkacmlaaGreatDoor.Chk
open Go Go.RowKit

theorem names_at {w : World} {an : Option Addr} {n cn : Nat} {ns : List ByteArray} {i : Nat} {nm : ByteArray} (h : Reads w (.slice an n cn) ns) (hi : ns[i]? = some nm) : ∃ gn on, an = some ⟨gn, on, none⟩ ∧ w.cell? ⟨gn, on + i, none⟩ = some (.string nm) := by
  obtain ⟨a0, c0, e, -, h⟩ := h
  obtain ⟨g, o, rfl, -, h⟩ := h.resolve_left (by intro e; subst e; simp at hi)
  simp only [Value.slice.injEq] at e
  exact ⟨g, o, e.1, h i nm hi⟩
set_option maxHeartbeats 8000000 in
set_option maxRecDepth 100000 in
theorem laid_5 (x : Int) (s : ByteArray) (an : Option Addr) (ln cn : Nat) (ai : Option Addr) (ci : Nat) (its : List Tr) (v : Value) (l : List UInt8) (lo : Nat) (w0 w : World) (hB : Below w0.heap.size w0 w) (hl0 : w0.heap.size ≤ lo) (hlo : lo ≤ w.heap.size) (hown : Hid (w.ownsRow lo 5 1 v l.length (Lib.byteCells l))) (hml : its.length ≤ 9223372036854775807) (hb : l.length + 2 * (1 + (kyL its).length) ≤ 100000000000) (hL : Hid (ItemsAt' w0 ai its)) (hI : Hid (LaidOks w0 lo its)) :
    Calls Tryz.prog 134 #[v, .agg #[.int .i64 5, .int .i64 x, .string s, .slice an ln cn, .slice ai its.length ci]] w (KeyPost lo w v (l ++ 64 :: kyL its)) := by
  obtain ⟨i5, hi5, hz0, hz1, hz2⟩ := info_parts Q5
  obtain ⟨ac, hac⟩ : ∃ f : Nat → List UInt8, Hid ((fun i => (its.take i).flatMap (fun t => 2 :: keyT t)) = f) := ⟨_, hid_e rfl⟩
  have h0 : Hid (ac 0 = []) := by rw [Hid, ← hac.out]; simp
  have hfin : Hid (kyL its = ac its.length ++ [1]) := by
    rw [Hid, ← hac.out, kyL_acc]
    show _ = (its.take its.length).flatMap _ ++ [1]
    rw [List.take_of_length_le (by exact Nat.le_refl _)]
  have hmono : Hid (∀ i, (ac i).length ≤ (ac its.length).length) := by
    rw [Hid, ← hac.out]
    intro i
    show (List.flatMap _ (List.take i _)).length ≤ (List.flatMap _ (List.take its.length _)).length
    rw [List.take_of_length_le (l := its) (i := its.length) (by exact Nat.le_refl _)]
    exact flat_mono _ _ _
  have hstep : Hid (∀ i u, its[i]? = some u → ac (i + 1) = ac i ++ (2 :: keyT u)) := by rw [Hid, ← hac.out]; intro i u hu; exact flat_next _ hu
  clear hac
  have hbl : Hid (l.length + 2 * (2 + (ac its.length).length) ≤ 100000000000) := by have h1 := hfin.out; rw [h1, List.length_append] at hb; simp only [List.length_cons, List.length_nil] at hb; rw [Hid]; omega
  rw [hfin.out]
  clear hfin hb
  have hbd : l.length + 1 ≤ maxLen ∧ (l.length + 1) * 1 ≤ 140737488355328 := by have := hbl.out; unfold maxLen; omega
  have hK0 := hid_e ((KeyAt.start hown.out).alloc (.cells #[.int .i64 5, .int .i64 x, .string s, .slice an ln cn, .slice ai its.length ci] 28))
  have n1 := heap_alloc_new w (.cells #[.int .i64 5, .int .i64 x, .string s, .slice an ln cn, .slice ai its.length ci] 28)
  go_enter Tryz.func134, Tryz.ntmps134
  go_upto_region 16 with fail
  generalize w.alloc (.cells #[.int .i64 5, .int .i64 x, .string s, .slice an ln cn, .slice ai its.length ci] 28) = X0 at n1 hK0 ⊢
  go_upto_region 17 with (at_builtin; refine wpList_append_lies _ rfl _ _ 158 rfl lo 5 i5 _ 1 1 Tryz.underlying158 hi5 hz0 hz1 hz2 rfl (by decide) (v) l.length _ rfl (hK0.out.own.alloc _) ⟨X0.heap.size, 0, none⟩ 1 1 [.int .u8 64] rfl rfl (World.news_of_block (heap_alloc_new X0 (.cells #[.int .u8 64] 5))) (fun u hu => by obtain rfl := List.mem_singleton.1 hu; rfl) (by decide) hbd.1 hbd.2 (by rw [World.size_alloc]; have := hK0.out.grown.size; omega) _ rfl ?_; intro ga capa Wa hoa hgra hata hlta)
  have n2 := box_stay (hK0.out.own.alloc _) hgra (box_alloc n1 (.cells #[.int .u8 64] 5))
  obtain ⟨la, hla⟩ : ∃ z, Hid (l ++ [64] = z) := ⟨_, hid_e rfl⟩
  have hna : Hid (l.length + 1 = la.length) := by rw [Hid, ← hla.out, List.length_append]; rfl
  have hKa : Hid (KeyAt lo w v.ownBlock Wa (.slice (some ⟨ga, 0, none⟩) la.length capa) la) := by
    rw [Hid, ← hna.out, ← hla.out]
    exact (hK0.out.alloc (.cells #[.int .u8 64] 5)).app rfl (by simp [Lib.byteCells]) hoa hgra hata
  rw [hna.out]
  clear hoa hgra hata hlta n1 hK0 hbd
  have hKs : Hid (KeyAt lo w v.ownBlock Wa (.slice (some ⟨ga, 0, none⟩) la.length capa) (la ++ ac 0)) := by rw [h0.out, List.append_nil]; exact hKa
  obtain ⟨kv0, hkv0⟩ : ∃ z, Hid (Value.slice (some ⟨ga, 0, none⟩) la.length capa = z) := ⟨_, hid_e rfl⟩
  rw [hkv0.out] at hKs
  rw [hkv0.out]
  clear hkv0 hKa
  obtain ⟨-, -, -, y3, y4, -⟩ := row_cells n2
  go_wp2_with fail
  clear y3 y4
  go_loopw [0, 64] (fun kv iv wr => ∃ i : Nat, i ≤ its.length ∧ iv = .int .i64 i ∧ wr.heap[w.heap.size]? = some (.cells #[.int .i64 5, .int .i64 x, .string s, .slice an ln cn, .slice ai its.length ci] 28 (0, 0)) ∧ Hid (KeyAt lo w v.ownBlock wr kv (la ++ ac i))) (fun _ iv _ => its.length - (intOf iv).toNat)
  case atStart => exact ⟨0, Nat.zero_le _, rfl, n2, hKs⟩
  case round =>
    clear n2 hKs
    obtain ⟨i, hi, rfl, hx, hK⟩ := hrel
    obtain ⟨li, hli⟩ : ∃ z, Hid (la ++ ac i = z) := ⟨_, hid_e rfl⟩
    rw [hli.out] at hK
    have hlli : Hid (li.length = l.length + 1 + (ac i).length) := by rw [Hid, ← hli.out, List.length_append, ← hna.out]
    have hbd : li.length + 1 ≤ maxLen ∧ (li.length + 1) * 1 ≤ 140737488355328 := by have h1 := hlli.out; have h2 := hbl.out; have h3 := hmono.out i; unfold maxLen; omega
    have hBr := hid_e (hK.out.below hB hl0 hown.out)
    by_cases hlt : i < its.length
    · have i1 : (i : Int) < (its.length : Int) := by omega
      obtain ⟨u, hu⟩ : ∃ u, Hid (its[i]? = some u) := ⟨_, hid_e (List.getElem?_eq_getElem hlt)⟩
      obtain ⟨b, o, rfl, hb, hV⟩ := hL.out.resolve_left (by intro e; subst e; simp at hlt)
      obtain ⟨cs, hia, hr⟩ := VRepL.at its o i u hV hu.out
      obtain ⟨k2, x2, s2, an2, ln2, cn2, ai2, li2, ci2, rfl⟩ := vrep_five hr
      have hcall := hid_e (fun W v' l' h1 h2 h3 h4 => hI.out i u hu.out _ W v' l' hr h1 h2 h3 h4)
      replace hia := hid_e hia
      have hst := hid_e (hstep.out i u hu.out)
      have hmx : Hid ((ac (i + 1)).length ≤ (ac its.length).length) := hmono.out (i + 1)
      clear hV hr
      have z0 := stay hBr.out (hia.out 0 _ rfl)
      have z1 := stay hBr.out (hia.out 1 _ rfl)
      have z2 := stay hBr.out (hia.out 2 _ rfl)
      have z3 := stay hBr.out (hia.out 3 _ rfl)
      have z4 := stay hBr.out (hia.out 4 _ rfl)
      simp only [Nat.add_zero] at z0
      go_upto_region 20 with fail
      clear z0 z1 z2 z3 z4
      have n1 := heap_alloc_new wr (.cells #[.int .i64 k2, .int .i64 x2, .string s2, .slice an2 ln2 cn2, .slice ai2 li2 ci2] 28)
      have hxa := box_alloc hx (.cells #[.int .i64 k2, .int .i64 x2, .string s2, .slice an2 ln2 cn2, .slice ai2 li2 ci2] 28)
      have hK0 := hid_e (hK.out.alloc (.cells #[.int .i64 k2, .int .i64 x2, .string s2, .slice an2 ln2 cn2, .slice ai2 li2 ci2] 28))
      generalize wr.alloc (.cells #[.int .i64 k2, .int .i64 x2, .string s2, .slice an2 ln2 cn2, .slice ai2 li2 ci2] 28) = X0 at n1 hxa hK0 ⊢
      replace hxa : X0.drew.heap[w.heap.size]? = some (.cells #[.int .i64 5, .int .i64 x, .string s, .slice an ln cn, .slice (some ⟨b, o, none⟩) its.length ci] 28 (0, 0)) := hxa
      replace n1 : X0.drew.heap[wr.heap.size]? = some (.cells #[.int .i64 k2, .int .i64 x2, .string s2, .slice an2 ln2 cn2, .slice ai2 li2 ci2] 28 (0, 0)) := n1
      replace hK0 := hid_e hK0.out.drew
      generalize hX : X0.drew = X at n1 hxa hK0
      refine wp_region_noPanic ?_
      refine Until.wp_region_U (fun w' => w'.heap[wr.heap.size]? = some (.cells #[.int .i64 k2, .int .i64 x2, .string s2, .slice an2 ln2 cn2, .slice ai2 li2 ci2] 28 (0, 0))) (fun _ => True) 5 (by kernel_rfl) ?_
      rw [hX]
      clear hX
      refine Until.wpU_pure (i := 0) (oi := { dst := some 68, op := Op.move (Operand.tmp 0), type := 158, pos := "key.go:57", after := #[], guard := none }) (v := u0) rfl (by kernel_rfl) (by kernel_rfl) (by kernel_rfl) (by kernel_rfl) (by kernel_rfl) (fun _ _ _ h => h) (n1) (fun _ => trivial) (by rfl) (by intro w'; go_simp) ?_
      try simp only [Act.put, List.setIfInBounds_toArray, List.set_cons_zero, List.set_cons_succ]
      refine Until.wpU_load0 (i := 3) (oi := { dst := some 71, op := Op.load 28 (Operand.tmp 8), type := 28, pos := "key.go:57", after := #[], guard := none }) (v := .agg #[.int .i64 k2, .int .i64 x2, .string s2, .slice an2 ln2 cn2, .slice ai2 li2 ci2]) rfl (by kernel_rfl) (by kernel_rfl) (by kernel_rfl) (by kernel_rfl) (by kernel_rfl) (fun _ _ _ h => h) (n1) (fun _ => trivial) (by rfl) (by intro w' hw'; obtain ⟨t0, t1, t2, t3, t4, -⟩ := row_cells hw'; go_simp) ?_
      try simp only [Act.put, List.setIfInBounds_toArray, List.set_cons_zero, List.set_cons_succ]
      refine Until.wpU_ready (rs := [1]) (by kernel_rfl) (by simp) ?_
      refine (Until.AllU.cons (o := { dst := some 69, op := Op.buildSlice 158 1 #[(0, Operand.const (Value.int IntKind.u8 2))], type := 158, pos := "key.go:57", after := #[], guard := none }) rfl (fun K hK => ?_) Until.AllU.nil)
      go_simp
      have n2 := box_alloc n1 (.cells #[.int .u8 2] 5)
      refine hK.out _ _ (n2) (fun _ => trivial) ?_
      clear hK K
      try simp only [Act.put, List.setIfInBounds_toArray, List.set_cons_zero, List.set_cons_succ]
      refine Until.wpU_ready (rs := [2]) (by kernel_rfl) (by simp) ?_
      refine (Until.AllU.cons (o := { dst := some 70, op := Op.call { callee := Callee.builtin Builtin.append, args := #[Operand.tmp 68, Operand.tmp 69], argTypes := #[158, 158] }, type := 158, pos := "key.go:57", after := #[{ on := 0, ground := Ground.data }, { on := 1, ground := Ground.data }], guard := none }) rfl (fun K hK => ?_) Until.AllU.nil)
      refine step_append_lies _ (by rfl) _ _ 158 (by rfl) lo 5 i5 _ 1 1 Tryz.underlying158 hi5 hz0 hz1 hz2 (by rfl) (by decide) (u0) li.length _ (by rfl) (hK0.out.own.alloc _) ⟨X.heap.size, 0, none⟩ 1 1 [.int .u8 2] (by rfl) (by rfl) (World.news_of_block (heap_alloc_new X (.cells #[.int .u8 2] 5))) (fun u hu => by obtain rfl := List.mem_singleton.1 hu; rfl) (by decide) hbd.1 hbd.2 (by rw [World.size_alloc]; have := hK0.out.grown.size; omega) _ rfl ?_
      intro gc capc Wc hoc hgrc hatc hltc
      have n3 := box_stay (hK0.out.own.alloc _) hgrc n2
      have hxc := box_stay (hK0.out.own.alloc _) hgrc (box_alloc hxa _)
      obtain ⟨lc, hlc⟩ : ∃ z, Hid (li ++ [2] = z) := ⟨_, hid_e rfl⟩
      have hnc : Hid (li.length + 1 = lc.length) := by rw [Hid, ← hlc.out, List.length_append]; rfl
      have hKc : Hid (KeyAt lo w v.ownBlock Wc (.slice (some ⟨gc, 0, none⟩) lc.length capc) lc) := by
        rw [Hid, ← hnc.out, ← hlc.out]
        exact (hK0.out.alloc (.cells #[.int .u8 2] 5)).app rfl (by simp [Lib.byteCells]) hoc hgrc hatc
      rw [hnc.out]
      clear hoc hgrc hatc hltc n1 n2 hxa
      refine hK.out _ _ (n3) (fun _ => trivial) ?_
      clear hK K
      try simp only [Act.put, List.setIfInBounds_toArray, List.set_cons_zero, List.set_cons_succ]
      refine Until.wpU_ready (rs := [4]) (by kernel_rfl) (by simp) ?_
      refine (Until.AllU.cons (o := { dst := some 72, op := Op.call { callee := Callee.value (Operand.func 134), args := #[Operand.tmp 70, Operand.tmp 71], argTypes := #[158, 28] }, type := 158, pos := "key.go:57", after := #[{ on := 2, ground := Ground.data }, { on := 3, ground := Ground.data }, { on := 2, ground := Ground.chain }], guard := none }) rfl (fun K hK => ?_) Until.AllU.nil)
      go_simp
      refine (hcall.out Wc (.slice (some ⟨gc, 0, none⟩) lc.length capc) lc (hKc.out.below hB hl0 hown.out) (Nat.le_trans hlo hKc.out.grown.size) hKc.out.own (by have h1 := hst.out; have h2 := hmx.out; have h3 := hnc.out; have h4 := hlli.out; have h5 := hbl.out; rw [h1, List.length_append, List.length_cons] at h2; omega)).mono ?_
      rintro e Wd ⟨kv, rfl, hKd⟩
      have n4 := box_stay hKc.out.own hKd.grown n3
      have hxd := box_stay hKc.out.own hKd.grown hxc
      have hKe : Hid (KeyAt lo w v.ownBlock Wd kv (la ++ ac (i + 1))) := by
        have e : la ++ ac (i + 1) = lc ++ keyT u := by rw [hst.out, ← hlc.out, ← hli.out]; simp
        rw [Hid, e]
        exact hKc.out.call hKd
      refine hK.out _ _ (n4) (fun _ => trivial) ?_
      clear hK K
      try simp only [Act.put, List.setIfInBounds_toArray, List.set_cons_zero, List.set_cons_succ]
      refine Until.wpU_ready (rs := [5]) (by kernel_rfl) (by simp) ?_
      refine (Until.AllU.cons (o := { dst := some 0, op := Op.assign (Operand.tmp 72), type := 158, pos := "key.go:57", after := #[{ on := 4, ground := Ground.data }, { on := 4, ground := Ground.chain }, { on := 0, ground := Ground.phase }, { on := 1, ground := Ground.phase }, { on := 2, ground := Ground.phase }, { on := 3, ground := Ground.phase }, { on := 4, ground := Ground.phase }], guard := none }) rfl (fun K hK => ?_) Until.AllU.nil)
      go_simp
      refine hK.out _ _ (n4) (fun _ => trivial) ?_
      clear hK K
      try simp only [Act.put, List.setIfInBounds_toArray, List.set_cons_zero, List.set_cons_succ]
      refine Until.wpU_done (by kernel_rfl) ?_ _
      refine NoPanic.normal ?_
      clear hKd n3 n4 hxc hKc
      go_wp2_with fail
      go_roundw
      case rel => exact ⟨i + 1, by omega, by go_num, hxd, hKe⟩
      case measure => simp [intOf]; omega
    · obtain rfl : i = its.length := by omega
      go_upto_region 22 with fail
      go_wp2_with (at_builtin; refine wpList_append_lies _ rfl _ _ 158 rfl lo 5 i5 _ 1 1 Tryz.underlying158 hi5 hz0 hz1 hz2 rfl (by decide) (u0) li.length _ rfl (hK.out.own.alloc _) ⟨wr.heap.size, 0, none⟩ 1 1 [.int .u8 1] rfl rfl (World.news_of_block (heap_alloc_new wr (.cells #[.int .u8 1] 5))) (fun u hu => by obtain rfl := List.mem_singleton.1 hu; rfl) (by decide) hbd.1 hbd.2 (by rw [World.size_alloc]; have := hK.out.grown.size; omega) _ rfl ?_; intro ge cape We hoe hgre hate hlte)
      obtain ⟨le, hle⟩ : ∃ z, Hid (li ++ [1] = z) := ⟨_, hid_e rfl⟩
      have hne : Hid (li.length + 1 = le.length) := by rw [Hid, ← hle.out, List.length_append]; rfl
      have hKe : Hid (KeyAt lo w v.ownBlock We (.slice (some ⟨ge, 0, none⟩) le.length cape) le) := by
        rw [Hid, ← hne.out, ← hle.out]
        exact (hK.out.alloc (.cells #[.int .u8 1] 5)).app rfl (by simp [Lib.byteCells]) hoe hgre hate
      rw [hne.out]
      have hKz : Hid (KeyAt lo w v.ownBlock We (.slice (some ⟨ge, 0, none⟩) le.length cape) (l ++ 64 :: (ac its.length ++ [1]))) := by
        have e : l ++ 64 :: (ac its.length ++ [1]) = le := by rw [← hle.out, ← hli.out, ← hla.out]; simp
        rw [Hid, e]
        exact hKe.out
      clear hoe hgre hate hlte
      go_wp2_with fail
      go_ret
      exact ⟨_, rfl, hKz.out⟩
set_option maxHeartbeats 8000000 in
set_option maxRecDepth 100000 in
theorem laid_6 (x : Int) (s : ByteArray) (an : Option Addr) (cn : Nat) (ns : List ByteArray) (ai : Option Addr) (ci : Nat) (its : List Tr) (v : Value) (l : List UInt8) (lo : Nat) (w0 w : World) (hB : Below w0.heap.size w0 w) (hl0 : w0.heap.size ≤ lo) (hlo : lo ≤ w.heap.size) (hown : Hid (w.ownsRow lo 5 1 v l.length (Lib.byteCells l))) (hml : its.length ≤ 9223372036854775807) (hb : l.length + 2 * (1 + (kyM ns its).length) ≤ 100000000000) (hnm : Hid (ns.length = its.length)) (hR : Hid (Reads w0 (.slice an its.length cn) ns)) (hL : Hid (ItemsAt' w0 ai its)) (hI : Hid (LaidOks w0 lo its)) :
    Calls Tryz.prog 134 #[v, .agg #[.int .i64 6, .int .i64 x, .string s, .slice an its.length cn, .slice ai its.length ci]] w (KeyPost lo w v (l ++ 48 :: kyM ns its)) := by
  obtain ⟨i5, hi5, hz0, hz1, hz2⟩ := info_parts Q5
  obtain ⟨ac, hac⟩ : ∃ f : Nat → List UInt8, Hid ((fun i => ((ns.zip its).take i).flatMap (fun p => 2 :: (keyS p.1.data.toList ++ keyT p.2))) = f) := ⟨_, hid_e rfl⟩
  have h0 : Hid (ac 0 = []) := by rw [Hid, ← hac.out]; simp
  have hfin : Hid (kyM ns its = ac its.length ++ [1]) := by
    rw [Hid, ← hac.out, kyM_acc _ _ hnm.out]
    show _ = ((ns.zip its).take its.length).flatMap _ ++ [1]
    rw [List.take_of_length_le (by rw [List.length_zip]; omega)]
  have hmono : Hid (∀ i, (ac i).length ≤ (ac its.length).length) := by
    rw [Hid, ← hac.out]
    intro i
    show (List.flatMap _ (List.take i _)).length ≤ (List.flatMap _ (List.take its.length _)).length
    rw [List.take_of_length_le (l := (ns.zip its)) (i := its.length) (by rw [List.length_zip]; omega)]
    exact flat_mono _ _ _
  have hstep : Hid (∀ i u nm, its[i]? = some u → ns[i]? = some nm → ac (i + 1) = ac i ++ (2 :: (keyS nm.data.toList ++ keyT u))) := by
    rw [Hid, ← hac.out]
    intro i u nm hu hn
    exact flat_next (fun p : ByteArray × Tr => 2 :: (keyS p.1.data.toList ++ keyT p.2)) (u := (nm, u)) (by rw [List.getElem?_zip_eq_some]; exact ⟨hn, hu⟩)
  clear hac
  have hbl : Hid (l.length + 2 * (2 + (ac its.length).length) ≤ 100000000000) := by have h1 := hfin.out; rw [h1, List.length_append] at hb; simp only [List.length_cons, List.length_nil] at hb; rw [Hid]; omega
  rw [hfin.out]
  clear hfin hb
  have hbd : l.length + 1 ≤ maxLen ∧ (l.length + 1) * 1 ≤ 140737488355328 := by have := hbl.out; unfold maxLen; omega
  have hK0 := hid_e ((KeyAt.start hown.out).alloc (.cells #[.int .i64 6, .int .i64 x, .string s, .slice an its.length cn, .slice ai its.length ci] 28))
  have n1 := heap_alloc_new w (.cells #[.int .i64 6, .int .i64 x, .string s, .slice an its.length cn, .slice ai its.length ci] 28)
  go_enter Tryz.func134, Tryz.ntmps134
  go_upto_region 7 with fail
  generalize w.alloc (.cells #[.int .i64 6, .int .i64 x, .string s, .slice an its.length cn, .slice ai its.length ci] 28) = X0 at n1 hK0 ⊢
  go_upto_region 8 with (at_builtin; refine wpList_append_lies _ rfl _ _ 158 rfl lo 5 i5 _ 1 1 Tryz.underlying158 hi5 hz0 hz1 hz2 rfl (by decide) (v) l.length _ rfl (hK0.out.own.alloc _) ⟨X0.heap.size, 0, none⟩ 1 1 [.int .u8 48] rfl rfl (World.news_of_block (heap_alloc_new X0 (.cells #[.int .u8 48] 5))) (fun u hu => by obtain rfl := List.mem_singleton.1 hu; rfl) (by decide) hbd.1 hbd.2 (by rw [World.size_alloc]; have := hK0.out.grown.size; omega) _ rfl ?_; intro ga capa Wa hoa hgra hata hlta)
  have n2 := box_stay (hK0.out.own.alloc _) hgra (box_alloc n1 (.cells #[.int .u8 48] 5))
  obtain ⟨la, hla⟩ : ∃ z, Hid (l ++ [48] = z) := ⟨_, hid_e rfl⟩
  have hna : Hid (l.length + 1 = la.length) := by rw [Hid, ← hla.out, List.length_append]; rfl
  have hKa : Hid (KeyAt lo w v.ownBlock Wa (.slice (some ⟨ga, 0, none⟩) la.length capa) la) := by
    rw [Hid, ← hna.out, ← hla.out]
    exact (hK0.out.alloc (.cells #[.int .u8 48] 5)).app rfl (by simp [Lib.byteCells]) hoa hgra hata
  rw [hna.out]
  clear hoa hgra hata hlta n1 hK0 hbd
  have hKs : Hid (KeyAt lo w v.ownBlock Wa (.slice (some ⟨ga, 0, none⟩) la.length capa) (la ++ ac 0)) := by rw [h0.out, List.append_nil]; exact hKa
  obtain ⟨kv0, hkv0⟩ : ∃ z, Hid (Value.slice (some ⟨ga, 0, none⟩) la.length capa = z) := ⟨_, hid_e rfl⟩
  rw [hkv0.out] at hKs
  rw [hkv0.out]
  clear hkv0 hKa
  obtain ⟨-, -, -, y3, y4, -⟩ := row_cells n2
  go_wp2_with fail
  clear y3 y4
  go_loopw [0, 35] (fun kv iv wr => ∃ i : Nat, i ≤ its.length ∧ iv = .int .i64 i ∧ wr.heap[w.heap.size]? = some (.cells #[.int .i64 6, .int .i64 x, .string s, .slice an its.length cn, .slice ai its.length ci] 28 (0, 0)) ∧ Hid (KeyAt lo w v.ownBlock wr kv (la ++ ac i))) (fun _ iv _ => its.length - (intOf iv).toNat)
  case atStart => exact ⟨0, Nat.zero_le _, rfl, n2, hKs⟩
  case round =>
    clear n2 hKs
    obtain ⟨i, hi, rfl, hx, hK⟩ := hrel
    obtain ⟨li, hli⟩ : ∃ z, Hid (la ++ ac i = z) := ⟨_, hid_e rfl⟩
    rw [hli.out] at hK
    have hlli : Hid (li.length = l.length + 1 + (ac i).length) := by rw [Hid, ← hli.out, List.length_append, ← hna.out]
    have hbd : li.length + 1 ≤ maxLen ∧ (li.length + 1) * 1 ≤ 140737488355328 := by have h1 := hlli.out; have h2 := hbl.out; have h3 := hmono.out i; unfold maxLen; omega
    have hBr := hid_e (hK.out.below hB hl0 hown.out)
    by_cases hlt : i < its.length
    · have i1 : (i : Int) < (its.length : Int) := by omega
      obtain ⟨u, hu⟩ : ∃ u, Hid (its[i]? = some u) := ⟨_, hid_e (List.getElem?_eq_getElem hlt)⟩
      obtain ⟨b, o, rfl, hb, hV⟩ := hL.out.resolve_left (by intro e; subst e; simp at hlt)
      obtain ⟨cs, hia, hr⟩ := VRepL.at its o i u hV hu.out
      obtain ⟨k2, x2, s2, an2, ln2, cn2, ai2, li2, ci2, rfl⟩ := vrep_five hr
      have hcall := hid_e (fun W v' l' h1 h2 h3 h4 => hI.out i u hu.out _ W v' l' hr h1 h2 h3 h4)
      replace hia := hid_e hia
      obtain ⟨nm, hnme⟩ : ∃ z, Hid (ns[i]? = some z) := ⟨_, hid_e (List.getElem?_eq_getElem (by rw [hnm.out]; exact hlt))⟩
      obtain ⟨gn, on, rfl, cc⟩ := names_at hR.out hnme.out
      replace cc := hid_e cc
      have hst := hid_e (hstep.out i u nm hu.out hnme.out)
      have hmx : Hid ((ac (i + 1)).length ≤ (ac its.length).length) := hmono.out (i + 1)
      clear hV hr
      have c1 := stay hBr.out cc.out
      go_upto_region 11 with fail
      clear c1
      go_wp2_with (at_builtin; refine wpList_append_lies _ rfl _ _ 158 rfl lo 5 i5 _ 1 1 Tryz.underlying158 hi5 hz0 hz1 hz2 rfl (by decide) (u0) li.length _ rfl (hK.out.own.alloc _) ⟨wr.heap.size, 0, none⟩ 1 1 [.int .u8 2] rfl rfl (World.news_of_block (heap_alloc_new wr (.cells #[.int .u8 2] 5))) (fun u hu => by obtain rfl := List.mem_singleton.1 hu; rfl) (by decide) hbd.1 hbd.2 (by rw [World.size_alloc]; have := hK.out.grown.size; omega) _ rfl ?_; intro gc capc Wc hoc hgrc hatc hltc)
      have hxc := box_stay (hK.out.own.alloc _) hgrc (box_alloc hx _)
      obtain ⟨lc, hlc⟩ : ∃ z, Hid (li ++ [2] = z) := ⟨_, hid_e rfl⟩
      have hnc : Hid (li.length + 1 = lc.length) := by rw [Hid, ← hlc.out, List.length_append]; rfl
      have hKc : Hid (KeyAt lo w v.ownBlock Wc (.slice (some ⟨gc, 0, none⟩) lc.length capc) lc) := by
        rw [Hid, ← hnc.out, ← hlc.out]
        exact (hK.out.alloc (.cells #[.int .u8 2] 5)).app rfl (by simp [Lib.byteCells]) hoc hgrc hatc
      rw [hnc.out]
      clear hoc hgrc hatc hltc
      go_wp2_with fail
      go_fit (text_code (.slice (some ⟨gc, 0, none⟩) lc.length capc) lc nm lo Wc (Nat.le_trans hlo hKc.out.grown.size) (hid_e hKc.out.own) (by have h1 := hst.out; have h2 := hmx.out; have h3 := hnc.out; have h4 := hlli.out; have h5 := hbl.out; have h6 := keyS_len nm.data.toList; rw [Array.length_toList] at h6; have h7 : nm.data.size = nm.size := rfl; rw [h1, List.length_append, List.length_cons, List.length_append] at h2; omega))
      rintro e Wd ⟨kv, rfl, hKd⟩
      have hxd := box_stay hKc.out.own hKd.grown hxc
      obtain ⟨ld, hld⟩ : ∃ z, Hid (lc ++ keyS nm.data.toList = z) := ⟨_, hid_e rfl⟩
      have hnd : Hid (ld.length = lc.length + (keyS nm.data.toList).length) := by rw [Hid, ← hld.out, List.length_append]
      have hKe : Hid (KeyAt lo w v.ownBlock Wd kv ld) := by rw [Hid, ← hld.out]; exact hKc.out.call hKd
      clear hKd hxc hKc
      have hBd := hid_e (hKe.out.below hB hl0 hown.out)
      obtain ⟨-, -, -, -, y4, -⟩ := row_cells hxd
      have z0 := stay hBd.out (hia.out 0 _ rfl)
      have z1 := stay hBd.out (hia.out 1 _ rfl)
      have z2 := stay hBd.out (hia.out 2 _ rfl)
      have z3 := stay hBd.out (hia.out 3 _ rfl)
      have z4 := stay hBd.out (hia.out 4 _ rfl)
      simp only [Nat.add_zero] at z0
      go_wp2_with fail
      go_fit (hcall.out Wd kv ld hBd.out (Nat.le_trans hlo hKe.out.grown.size) hKe.out.own (by have h1 := hst.out; have h2 := hmx.out; have h3 := hnc.out; have h4 := hlli.out; have h5 := hbl.out; have h6 := hnd.out; rw [h1, List.length_append, List.length_cons, List.length_append] at h2; omega))
      clear z0 z1 z2 z3 z4 y4
      rintro e Wf ⟨kw, rfl, hKf⟩
      have hxf := box_stay hKe.out.own hKf.grown hxd
      have hKg : Hid (KeyAt lo w v.ownBlock Wf kw (la ++ ac (i + 1))) := by
        have e : la ++ ac (i + 1) = ld ++ keyT u := by rw [hst.out, ← hld.out, ← hlc.out, ← hli.out]; simp
        rw [Hid, e]
        exact hKe.out.call hKf
      clear hKf hKe hxd
      go_wp2_with fail
      go_roundw
      case rel => exact ⟨i + 1, by omega, by go_num, hxf, hKg⟩
      case measure => simp [intOf]; omega
    · obtain rfl : i = its.length := by omega
      go_upto_region 14 with fail
      go_wp2_with (at_builtin; refine wpList_append_lies _ rfl _ _ 158 rfl lo 5 i5 _ 1 1 Tryz.underlying158 hi5 hz0 hz1 hz2 rfl (by decide) (u0) li.length _ rfl (hK.out.own.alloc _) ⟨wr.heap.size, 0, none⟩ 1 1 [.int .u8 1] rfl rfl (World.news_of_block (heap_alloc_new wr (.cells #[.int .u8 1] 5))) (fun u hu => by obtain rfl := List.mem_singleton.1 hu; rfl) (by decide) hbd.1 hbd.2 (by rw [World.size_alloc]; have := hK.out.grown.size; omega) _ rfl ?_; intro ge cape We hoe hgre hate hlte)
      obtain ⟨le, hle⟩ : ∃ z, Hid (li ++ [1] = z) := ⟨_, hid_e rfl⟩
      have hne : Hid (li.length + 1 = le.length) := by rw [Hid, ← hle.out, List.length_append]; rfl
      have hKe : Hid (KeyAt lo w v.ownBlock We (.slice (some ⟨ge, 0, none⟩) le.length cape) le) := by
        rw [Hid, ← hne.out, ← hle.out]
        exact (hK.out.alloc (.cells #[.int .u8 1] 5)).app rfl (by simp [Lib.byteCells]) hoe hgre hate
      rw [hne.out]
      have hKz : Hid (KeyAt lo w v.ownBlock We (.slice (some ⟨ge, 0, none⟩) le.length cape) (l ++ 48 :: (ac its.length ++ [1]))) := by
        have e : l ++ 48 :: (ac its.length ++ [1]) = le := by rw [← hle.out, ← hli.out, ← hla.out]; simp
        rw [Hid, e]
        exact hKe.out
      clear hoe hgre hate hlte
      go_wp2_with fail
      go_ret
      exact ⟨_, rfl, hKz.out⟩
end Go.Proofs.YtnlljodmkacmlaaGreatDoor.Chk
