import Derived.Test.YtnccaidlcaeeaaaGreatDoorOJ
import Derived.Test.YtnccaidlcaeeaaaGreatDoorOG
import Derived.Test.YtnccaidlcaeeaaaGreatDoorEQ
import Derived.Test.YtnccaidlcaeeaaaGreatDoorG3
import Derived.Test.YtnccaidlcaeeaaaGreatDoorW26
/-! JsonvalEquals: the walk. -/
namespace Go.Proofs.YtnccaidlcaeeaaaGreatDoor.Tree
open Go Go.RowKit

/-- Two values that were handed in. -/
structure TwoB (w : World) (b1 b2 : Array Value) (wx : World) : Prop where
  below : Below w.heap.size w wx
  one : wx.heap[w.heap.size]? = some (.cells b1 25 (0, 0))
  two : wx.heap[w.heap.size + 1]? = some (.cells b2 25 (0, 0))
theorem TwoB.keep {w wx wy : World} {b1 b2 : Array Value} (h : TwoB w b1 b2 wx) (hb : Below wx.heap.size wx wy) : TwoB w b1 b2 wy :=
  ⟨h.below.trans (hb.mono h.below.size), (hb.block _ (Array.getElem?_eq_some_iff.1 h.one).1).trans h.one, (hb.block _ (Array.getElem?_eq_some_iff.1 h.two).1).trans h.two⟩
theorem TwoB.fr {w wx wy : World} {b1 b2 : Array Value} {S : Nat → Prop} (h : TwoB w b1 b2 wx) (hf : Fr S wx wy) (hS : ∀ b, S b → w.heap.size + 1 < b) : TwoB w b1 b2 wy :=
  ⟨⟨hf.os.trans h.below.os, hf.tape.trans h.below.tape, hf.output.trans h.below.output, Nat.le_trans h.below.size hf.size, fun k hk => (hf.block k (Nat.lt_of_lt_of_le hk h.below.size) (fun e => by have := hS k e; omega)).trans (h.below.block k hk)⟩, (hf.block _ (Array.getElem?_eq_some_iff.1 h.one).1 (fun e => by have := hS _ e; omega)).trans h.one, (hf.block _ (Array.getElem?_eq_some_iff.1 h.two).1 (fun e => by have := hS _ e; omega)).trans h.two⟩
theorem TwoB.drew {w wx : World} {b1 b2 : Array Value} (h : TwoB w b1 b2 wx) : TwoB w b1 b2 wx.drew := ⟨below_drew h.below, h.one, h.two⟩
theorem twoB_new (w : World) (b1 b2 : Array Value) : TwoB w b1 b2 ((w.alloc (.cells b1 25)).alloc (.cells b2 25)) :=
  ⟨((Below.refl _ w).alloc (Nat.le_refl _) _).alloc (by simp) _, new1 w _ _, new2 w _ _⟩
/-- A value with lists of its own, in a box; its lists lie between lo and the box. -/
structure Bx (lo g : Nat) (h : HT) (t : Tr) (k x : Int) (s : ByteArray) (an : Option Addr) (ln cn : Nat) (ai : Option Addr) (li ci : Nat) (wr : World) : Prop where
  head : h.head = five k x s (.slice an ln cn) (.slice ai li ci)
  tr : h.tr = t
  own : OwnF wr h
  rng : ∀ b ∈ bksT h, lo ≤ b ∧ b < g
  le : lo ≤ g
  box : wr.heap[g]? = some (.cells #[.int .i64 k, .int .i64 x, .string s, .slice an ln cn, .slice ai li ci] 25 (0, 0))
theorem Bx.fr {lo g : Nat} {h : HT} {t : Tr} {k x : Int} {s : ByteArray} {an : Option Addr} {ln cn : Nat} {ai : Option Addr} {li ci : Nat} {wr w' : World} {S : Nat → Prop} (hx : Bx lo g h t k x s an ln cn ai li ci wr) (hf : Fr S wr w') (hS : ∀ b, S b → b < lo ∨ g < b) : Bx lo g h t k x s an ln cn ai li ci w' :=
  ⟨hx.head, hx.tr, hx.own.keep (fun b hb => hf.block b (hx.own.lt b hb) (fun e => by have := hS b e; have := hx.rng b hb; omega)), hx.rng, hx.le, (hf.block g (Array.getElem?_eq_some_iff.1 hx.box).1 (fun e => by have := hS g e; have := hx.le; omega)).trans hx.box⟩
theorem Bx.keep {lo g : Nat} {h : HT} {t : Tr} {k x : Int} {s : ByteArray} {an : Option Addr} {ln cn : Nat} {ai : Option Addr} {li ci : Nat} {wr w' : World} (hx : Bx lo g h t k x s an ln cn ai li ci wr) (hb : Below wr.heap.size wr w') : Bx lo g h t k x s an ln cn ai li ci w' := hx.fr (Fr.of_below (S := fun _ => False) hb) (fun _ e => e.elim)
theorem Bx.rep {lo g : Nat} {h : HT} {t : Tr} {k x : Int} {s : ByteArray} {an : Option Addr} {ln cn : Nat} {ai : Option Addr} {li ci : Nat} {wr : World} (hx : Bx lo g h t k x s an ln cn ai li ci wr) : VRep wr t (five k x s (.slice an ln cn) (.slice ai li ci)) := by
  have := own_rep h hx.own
  rw [hx.tr, hx.head] at this
  exact this
theorem bx_new {lo : Nat} {t : Tr} {k x : Int} {s : ByteArray} {an : Option Addr} {ln cn : Nat} {ai : Option Addr} {li ci : Nat} {Y : World} (hO : OwnAt lo Y t (five k x s (.slice an ln cn) (.slice ai li ci))) (hl : lo ≤ Y.heap.size) : ∃ h, Bx lo Y.heap.size h t k x s an ln cn ai li ci (Y.alloc (.cells #[.int .i64 k, .int .i64 x, .string s, .slice an ln cn, .slice ai li ci] 25)) := by
  obtain ⟨h, h1, h2, h3, h4⟩ := hO
  exact ⟨h, h1, h2, h3.keep (fun b hb => Below.heap_alloc _ _ _ (h3.lt b hb)), fun b hb => ⟨h4 b hb, h3.lt b hb⟩, hl, heap_alloc_new _ _⟩
mutual
theorem preT_parts : (h : HT) → (preT h).length ≤ partsT h.tr
  | .node k x s nm it ns kids => by
    rw [preT]
    unfold HT.tr partsT
    have := preL_parts kids
    simp only [List.length_cons]
    omega
theorem preL_parts : (l : List HT) → (preL l).length ≤ partsL (trL l)
  | [] => by simp [preL]
  | t :: ts => by
    rw [preL]
    unfold trL partsL
    have := preT_parts t
    have := preL_parts ts
    simp only [List.length_append]
    omega
end
mutual
theorem small_pre : (h : HT) → SmallT h.tr → ∀ u ∈ preT h, (u.names.length + 16) * 16 ≤ 140737488355328 ∧ (u.kids.length + 16) * 80 ≤ 140737488355328
  | .node k x s nm it ns kids, hS, u, hu => by
    unfold HT.tr SmallT at hS
    obtain ⟨_, s2, _, s4, s5⟩ := hS
    rw [trL_len] at s4
    rw [preT] at hu
    rcases List.mem_cons.1 hu with rfl | hu
    · show (ns.length + 16) * 16 ≤ _ ∧ (kids.length + 16) * 80 ≤ _
      omega
    · exact small_preL kids s5 u hu
theorem small_preL : (l : List HT) → SmallL (trL l) → ∀ u ∈ preL l, (u.names.length + 16) * 16 ≤ 140737488355328 ∧ (u.kids.length + 16) * 80 ≤ 140737488355328
  | [], _, u, hu => by simp [preL] at hu
  | t :: ts, hS, u, hu => by
    unfold trL SmallL at hS
    rw [preL] at hu
    rcases List.mem_append.1 hu with hu | hu
    · exact small_pre t hS.1 u hu
    · exact small_preL ts hS.2 u hu
end
theorem own_rep_at {lo : Nat} {W : World} {t : Tr} {cs : List Value} (h : OwnAt lo W t cs) : VRep W t cs := by
  obtain ⟨h, rfl, rfl, h1, -⟩ := h
  exact own_rep h h1
set_option maxHeartbeats 16000000 in
set_option maxRecDepth 100000 in
theorem equals_true (k1 x1 : Int) (s1 : ByteArray) (an1 : Option Addr) (ln1 cn1 : Nat) (ai1 : Option Addr) (li1 ci1 : Nat) (k2 x2 : Int) (s2 : ByteArray) (an2 : Option Addr) (ln2 cn2 : Nat) (ai2 : Option Addr) (li2 ci2 : Nat) (t1 t2 : Tr) (w : World) (hV1 : Hid (VRep w t1 (five k1 x1 s1 (.slice an1 ln1 cn1) (.slice ai1 li1 ci1)))) (hV2 : Hid (VRep w t2 (five k2 x2 s2 (.slice an2 ln2 cn2) (.slice ai2 li2 ci2)))) (hS1 : Hid (SmallT t1)) (hS2 : Hid (SmallT t2)) (hE : Hid (Env w)) (hP : Hid (EnvP w)) :
    Calls Tryz.prog 3 #[.agg #[.int .i64 k1, .int .i64 x1, .string s1, .slice an1 ln1 cn1, .slice ai1 li1 ci1], .agg #[.int .i64 k2, .int .i64 x2, .string s2, .slice an2 ln2 cn2, .slice ai2 li2 ci2]] w fun e w' => e = .returned (.bool true) ∧ Below w.heap.size w w' := by
  have h8 := hP.out.big
  have hlg1 := fun W (hW : Below w.heap.size w W) => hid_e (large_parts k1 x1 s1 an1 ln1 cn1 ai1 li1 ci1 t1 W (hid_e (VRep.keep hW _ _ hV1.out)) hS1)
  have hlg2 := fun W (hW : Below w.heap.size w W) => hid_e (large_parts k2 x2 s2 an2 ln2 cn2 ai2 li2 ci2 t2 W (hid_e (VRep.keep hW _ _ hV2.out)) hS2)
  have hcp1 := fun W (hW : Below w.heap.size w W) => hid_e (copy_own t1 _ W (VRep.keep hW _ _ hV1.out) hS1.out)
  have hcp2 := fun W (hW : Below w.heap.size w W) => hid_e (copy_own t2 _ W (VRep.keep hW _ _ hV2.out) hS2.out)
  have hself : Hid (eqT t1 t1 = true) := eqT_true rfl
  obtain ⟨c, hc⟩ : ∃ c, Hid (eqT t1 t2 = c) := ⟨_, hid_e rfl⟩
  go_enter Tryz.func3, Tryz.ntmps3
  go_upto_region 1 with fail
  have hT0 : TwoB w #[.int .i64 k1, .int .i64 x1, .string s1, .slice an1 ln1 cn1, .slice ai1 li1 ci1] #[.int .i64 k2, .int .i64 x2, .string s2, .slice an2 ln2 cn2, .slice ai2 li2 ci2] ((w.alloc (.cells #[.int .i64 k1, .int .i64 x1, .string s1, .slice an1 ln1 cn1, .slice ai1 li1 ci1] 25)).alloc (.cells #[.int .i64 k2, .int .i64 x2, .string s2, .slice an2 ln2 cn2, .slice ai2 li2 ci2] 25)) := twoB_new w _ _
  generalize (w.alloc (.cells #[.int .i64 k1, .int .i64 x1, .string s1, .slice an1 ln1 cn1, .slice ai1 li1 ci1] 25)).alloc (.cells #[.int .i64 k2, .int .i64 x2, .string s2, .slice an2 ln2 cn2, .slice ai2 li2 ci2] 25) = X0 at hT0
  go_cut [13] (fun v wx => (∃ z : Bool, v = .bool z ∧ Hid (z = false → partsT t1 ≤ 10000)) ∧ TwoB w #[.int .i64 k1, .int .i64 x1, .string s1, .slice an1 ln1 cn1, .slice ai1 li1 ci1] #[.int .i64 k2, .int .i64 x2, .string s2, .slice an2 ln2 cn2, .slice ai2 li2 ci2] wx)
  case first =>
    obtain ⟨y0, y1, y2, y3, y4, -⟩ := row_cells hT0.one
    go_wp2_with fail
    clear y0 y1 y2 y3 y4
    refine (hlg1 X0 hT0.below).out.mono ?_
    rintro e X1 ⟨⟨z1, rfl, hz1⟩, hb⟩
    have hT1 := hT0.keep hb
    replace hz1 := hid_e hz1
    clear hb
    cases z1
    · obtain ⟨y0, y1, y2, y3, y4, -⟩ := row_cells hT1.two
      go_wp2_with fail
      clear y0 y1 y2 y3 y4
      refine (hlg2 X1 hT1.below).out.mono ?_
      rintro e X2 ⟨⟨z2, rfl, hz2⟩, hb⟩
      have hT2 := hT1.keep hb
      clear hb hz2
      go_wp2_with fail
      go_meet
      exact ⟨⟨_, rfl, fun _ => hz1.out (by simp)⟩, hT2⟩
    · go_wp2_with fail
      go_meet
      exact ⟨⟨_, rfl, fun hz => by cases hz⟩, hT1⟩
  case rest =>
    clear hT0 hlg1 hlg2
    obtain ⟨⟨z, rfl, hz⟩, hT0⟩ := hcut
    cases z
    rotate_left
    · go_wp2_with fail
      go_ret
      exact ⟨rfl, hT0.below⟩
    replace hz := hid_e (hz.out rfl)
    go_upto_region 3 with fail
    go_cut [30] (fun v wx => v = .bool false ∧ TwoB w #[.int .i64 k1, .int .i64 x1, .string s1, .slice an1 ln1 cn1, .slice ai1 li1 ci1] #[.int .i64 k2, .int .i64 x2, .string s2, .slice an2 ln2 cn2, .slice ai2 li2 ci2] wx)
    case first =>
      rename_i wc
      skip
      replace hT0 := hT0.drew
      generalize hX9 : World.drew _ = A0 at hT0
      refine wp_region_noPanic ?_
      refine Until.wp_region_U (fun w' => TwoB w #[.int .i64 k1, .int .i64 x1, .string s1, .slice an1 ln1 cn1, .slice ai1 li1 ci1] #[.int .i64 k2, .int .i64 x2, .string s2, .slice an2 ln2 cn2, .slice ai2 li2 ci2] w') (fun _ => True) 100 (by kernel_rfl) ?_
      rw [hX9]
      clear hX9
      refine Until.wpU_load0 (i := 0) (oi := { dst := some 14, op := Op.load 25 (Operand.tmp 2), type := 25, pos := "law.go:121", after := #[], guard := none }) (v := .agg #[.int .i64 k1, .int .i64 x1, .string s1, .slice an1 ln1 cn1, .slice ai1 li1 ci1]) rfl (by kernel_rfl) (by kernel_rfl) (by kernel_rfl) (by kernel_rfl) (by kernel_rfl) (fun _ _ _ h => h) (hT0) (fun _ => trivial) (by rfl) (by intro w' hw'; obtain ⟨t0, t1, t2, t3, t4, -⟩ := row_cells hw'.one; clear hw'; go_simp) ?_
      try simp only [Act.put, List.setIfInBounds_toArray, List.set_cons_zero, List.set_cons_succ]
      refine Until.wpU_load0 (i := 2) (oi := { dst := some 16, op := Op.load 25 (Operand.tmp 3), type := 25, pos := "law.go:121", after := #[], guard := none }) (v := .agg #[.int .i64 k2, .int .i64 x2, .string s2, .slice an2 ln2 cn2, .slice ai2 li2 ci2]) rfl (by kernel_rfl) (by kernel_rfl) (by kernel_rfl) (by kernel_rfl) (by kernel_rfl) (fun _ _ _ h => h) (hT0) (fun _ => trivial) (by rfl) (by intro w' hw'; obtain ⟨t0, t1, t2, t3, t4, -⟩ := row_cells hw'.two; clear hw'; go_simp) ?_
      try simp only [Act.put, List.setIfInBounds_toArray, List.set_cons_zero, List.set_cons_succ]
      refine Until.wpU_load0 (i := 5) (oi := { dst := some 19, op := Op.load 25 (Operand.tmp 2), type := 25, pos := "law.go:121", after := #[], guard := none }) (v := .agg #[.int .i64 k1, .int .i64 x1, .string s1, .slice an1 ln1 cn1, .slice ai1 li1 ci1]) rfl (by kernel_rfl) (by kernel_rfl) (by kernel_rfl) (by kernel_rfl) (by kernel_rfl) (fun _ _ _ h => h) (hT0) (fun _ => trivial) (by rfl) (by intro w' hw'; obtain ⟨t0, t1, t2, t3, t4, -⟩ := row_cells hw'.one; clear hw'; go_simp) ?_
      try simp only [Act.put, List.setIfInBounds_toArray, List.set_cons_zero, List.set_cons_succ]
      refine Until.wpU_load0 (i := 6) (oi := { dst := some 20, op := Op.load 25 (Operand.tmp 3), type := 25, pos := "law.go:121", after := #[], guard := none }) (v := .agg #[.int .i64 k2, .int .i64 x2, .string s2, .slice an2 ln2 cn2, .slice ai2 li2 ci2]) rfl (by kernel_rfl) (by kernel_rfl) (by kernel_rfl) (by kernel_rfl) (by kernel_rfl) (fun _ _ _ h => h) (hT0) (fun _ => trivial) (by rfl) (by intro w' hw'; obtain ⟨t0, t1, t2, t3, t4, -⟩ := row_cells hw'.two; clear hw'; go_simp) ?_
      try simp only [Act.put, List.setIfInBounds_toArray, List.set_cons_zero, List.set_cons_succ]
      refine Until.wpU_ready (rs := [1]) (by kernel_rfl) (by simp) ?_
      refine (Until.AllU.cons (o := { dst := some 15, op := Op.call { callee := Callee.value (Operand.func 7), args := #[Operand.tmp 14], argTypes := #[25] }, type := 25, pos := "law.go:121", after := #[{ on := 0, ground := Ground.data }], guard := none }) rfl (fun K hK => ?_) Until.AllU.nil)
      go_simp
      refine (hcp1 _ hT0.below).out.mono ?_
      rintro e U1 ⟨ka, xa, sa, ana, lna, cna, aia, lia, cia, rfl, hO, hb⟩
      have hVa := hid_e (own_rep_at hO)
      have hT1 := hT0.keep hb
      clear hO hb
      refine hK.out _ _ (hT1) (fun _ => trivial) ?_
      clear hK K
      try simp only [Act.put, List.setIfInBounds_toArray, List.set_cons_zero, List.set_cons_succ]
      refine Until.wpU_ready (rs := [3]) (by kernel_rfl) (by simp) ?_
      refine (Until.AllU.cons (o := { dst := some 17, op := Op.call { callee := Callee.value (Operand.func 7), args := #[Operand.tmp 16], argTypes := #[25] }, type := 25, pos := "law.go:121", after := #[{ on := 2, ground := Ground.data }, { on := 1, ground := Ground.chain }], guard := none }) rfl (fun K hK => ?_) Until.AllU.nil)
      go_simp
      refine (hcp2 _ hT1.below).out.mono ?_
      rintro e U2 ⟨kb, xb, sb, anb, lnb, cnb, aib, lib, cib, rfl, hO, hb⟩
      have hVb := hid_e (own_rep_at hO)
      replace hVa := hid_e (VRep.keep hb _ _ hVa.out)
      have hT2 := hT1.keep hb
      clear hO hb
      refine hK.out _ _ (hT2) (fun _ => trivial) ?_
      clear hK K
      try simp only [Act.put, List.setIfInBounds_toArray, List.set_cons_zero, List.set_cons_succ]
      refine Until.wpU_ready (rs := [4]) (by kernel_rfl) (by simp) ?_
      refine (Until.AllU.cons (o := { dst := some 18, op := Op.call { callee := Callee.value (Operand.func 6), args := #[Operand.tmp 15, Operand.tmp 17], argTypes := #[25, 25] }, type := 4, pos := "law.go:121", after := #[{ on := 1, ground := Ground.data }, { on := 3, ground := Ground.data }, { on := 3, ground := Ground.chain }], guard := none }) rfl (fun K hK => ?_) Until.AllU.nil)
      go_simp
      refine (jeq_any t1 t2 _ _ _ hVa.out hVb.out hS1.out).mono ?_
      rw [hc.out]
      rintro e U3 ⟨rfl, hb⟩
      have hT3 := hT2.keep hb
      clear hb hVa hVb
      refine hK.out _ _ (hT3) (fun _ => trivial) ?_
      clear hK K
      try simp only [Act.put, List.setIfInBounds_toArray, List.set_cons_zero, List.set_cons_succ]
      refine Until.wpU_ready (rs := [7]) (by kernel_rfl) (by simp) ?_
      refine (Until.AllU.cons (o := { dst := some 21, op := Op.call { callee := Callee.value (Operand.func 8), args := #[Operand.tmp 19, Operand.tmp 20], argTypes := #[25, 25] }, type := 4, pos := "law.go:121", after := #[{ on := 5, ground := Ground.data }, { on := 6, ground := Ground.data }, { on := 4, ground := Ground.chain }], guard := none }) rfl (fun K hK => ?_) Until.AllU.nil)
      go_simp
      refine (equal_any t1 t2 _ _ _ (VRep.keep hT3.below _ _ hV1.out) (VRep.keep hT3.below _ _ hV2.out) hS1.out).mono ?_
      rw [hc.out]
      rintro e U4 ⟨rfl, hb⟩
      have hT4 := hT3.keep hb
      clear hb
      refine hK.out _ _ (hT4) (fun _ => trivial) ?_
      clear hK K
      try simp only [Act.put, List.setIfInBounds_toArray, List.set_cons_zero, List.set_cons_succ]
      refine Until.wpU_pure (i := 8) (oi := { dst := some 22, op := Op.binOp BinOp.neq 4 (Operand.tmp 18) (Operand.tmp 21) 4, type := 4, pos := "law.go:121", after := #[{ on := 4, ground := Ground.data }, { on := 7, ground := Ground.data }], guard := none }) (v := .bool false) rfl (by kernel_rfl) (by kernel_rfl) (by kernel_rfl) (by kernel_rfl) (by kernel_rfl) (fun _ _ _ h => h) (hT4) (fun _ => trivial) (by rfl) (by intro w'; go_simp) ?_
      try simp only [Act.put, List.setIfInBounds_toArray, List.set_cons_zero, List.set_cons_succ]
      refine Until.wpU_ready (rs := [9]) (by kernel_rfl) (by simp) ?_
      refine (Until.AllU.cons (o := { dst := some 23, op := Op.move (Operand.tmp 22), type := 4, pos := "law.go:121", after := #[{ on := 8, ground := Ground.data }, { on := 7, ground := Ground.chain }], guard := none }) rfl (fun K hK => ?_) Until.AllU.nil)
      go_simp
      refine hK.out _ _ (hT4) (fun _ => trivial) ?_
      clear hK K
      try simp only [Act.put, List.setIfInBounds_toArray, List.set_cons_zero, List.set_cons_succ]
      refine Until.wpU_load0 (i := 10) (oi := { dst := some 24, op := Op.load 25 (Operand.tmp 2), type := 25, pos := "law.go:121", after := #[{ on := 9, ground := Ground.guard }], guard := some (9, false) }) (v := .agg #[.int .i64 k1, .int .i64 x1, .string s1, .slice an1 ln1 cn1, .slice ai1 li1 ci1]) rfl (by kernel_rfl) (by kernel_rfl) (by kernel_rfl) (by kernel_rfl) (by kernel_rfl) (fun _ _ _ h => h) (hT4) (fun _ => trivial) (by rfl) (by intro w' hw'; obtain ⟨t0, t1, t2, t3, t4, -⟩ := row_cells hw'.one; clear hw'; go_simp) ?_
      try simp only [Act.put, List.setIfInBounds_toArray, List.set_cons_zero, List.set_cons_succ]
      refine Until.wpU_load0 (i := 12) (oi := { dst := some 26, op := Op.load 25 (Operand.tmp 2), type := 25, pos := "law.go:121", after := #[{ on := 9, ground := Ground.guard }], guard := some (9, false) }) (v := .agg #[.int .i64 k1, .int .i64 x1, .string s1, .slice an1 ln1 cn1, .slice ai1 li1 ci1]) rfl (by kernel_rfl) (by kernel_rfl) (by kernel_rfl) (by kernel_rfl) (by kernel_rfl) (fun _ _ _ h => h) (hT4) (fun _ => trivial) (by rfl) (by intro w' hw'; obtain ⟨t0, t1, t2, t3, t4, -⟩ := row_cells hw'.one; clear hw'; go_simp) ?_
      try simp only [Act.put, List.setIfInBounds_toArray, List.set_cons_zero, List.set_cons_succ]
      refine Until.wpU_ready (rs := [11]) (by kernel_rfl) (by simp) ?_
      refine (Until.AllU.cons (o := { dst := some 25, op := Op.call { callee := Callee.value (Operand.func 7), args := #[Operand.tmp 24], argTypes := #[25] }, type := 25, pos := "law.go:121", after := #[{ on := 10, ground := Ground.data }, { on := 9, ground := Ground.chain }, { on := 9, ground := Ground.guard }], guard := some (9, false) }) rfl (fun K hK => ?_) Until.AllU.nil)
      go_simp
      refine (hcp1 _ hT4.below).out.mono ?_
      rintro e U5 ⟨ka, xa, sa, ana, lna, cna, aia, lia, cia, rfl, hO, hb⟩
      have hVa := hid_e (own_rep_at hO)
      have hT5 := hT4.keep hb
      clear hO hb
      refine hK.out _ _ (hT5) (fun _ => trivial) ?_
      clear hK K
      try simp only [Act.put, List.setIfInBounds_toArray, List.set_cons_zero, List.set_cons_succ]
      refine Until.wpU_ready (rs := [13]) (by kernel_rfl) (by simp) ?_
      refine (Until.AllU.cons (o := { dst := some 27, op := Op.call { callee := Callee.value (Operand.func 7), args := #[Operand.tmp 26], argTypes := #[25] }, type := 25, pos := "law.go:121", after := #[{ on := 12, ground := Ground.data }, { on := 11, ground := Ground.chain }, { on := 9, ground := Ground.guard }], guard := some (9, false) }) rfl (fun K hK => ?_) Until.AllU.nil)
      go_simp
      refine (hcp1 _ hT5.below).out.mono ?_
      rintro e U6 ⟨kb, xb, sb, anb, lnb, cnb, aib, lib, cib, rfl, hO, hb⟩
      have hVb := hid_e (own_rep_at hO)
      replace hVa := hid_e (VRep.keep hb _ _ hVa.out)
      have hT6 := hT5.keep hb
      clear hO hb
      refine hK.out _ _ (hT6) (fun _ => trivial) ?_
      clear hK K
      try simp only [Act.put, List.setIfInBounds_toArray, List.set_cons_zero, List.set_cons_succ]
      refine Until.wpU_ready (rs := [14]) (by kernel_rfl) (by simp) ?_
      refine (Until.AllU.cons (o := { dst := some 28, op := Op.call { callee := Callee.value (Operand.func 6), args := #[Operand.tmp 25, Operand.tmp 27], argTypes := #[25, 25] }, type := 4, pos := "law.go:121", after := #[{ on := 11, ground := Ground.data }, { on := 13, ground := Ground.data }, { on := 13, ground := Ground.chain }, { on := 9, ground := Ground.guard }], guard := some (9, false) }) rfl (fun K hK => ?_) Until.AllU.nil)
      go_simp
      refine (jeq_any t1 t1 _ _ _ hVa.out hVb.out hS1.out).mono ?_
      rw [hself.out]
      rintro e U7 ⟨rfl, hb⟩
      have hT7 := hT6.keep hb
      clear hb hVa hVb
      refine hK.out _ _ (hT7) (fun _ => trivial) ?_
      clear hK K
      try simp only [Act.put, List.setIfInBounds_toArray, List.set_cons_zero, List.set_cons_succ]
      refine Until.wpU_pure (i := 15) (oi := { dst := some 29, op := Op.unOp UnOp.not 4 (Operand.tmp 28), type := 4, pos := "law.go:121", after := #[{ on := 14, ground := Ground.data }, { on := 9, ground := Ground.guard }], guard := some (9, false) }) (v := .bool false) rfl (by kernel_rfl) (by kernel_rfl) (by kernel_rfl) (by kernel_rfl) (by kernel_rfl) (fun _ _ _ h => h) (hT7) (fun _ => trivial) (by rfl) (by intro w'; go_simp) ?_
      try simp only [Act.put, List.setIfInBounds_toArray, List.set_cons_zero, List.set_cons_succ]
      refine Until.wpU_ready (rs := [16]) (by kernel_rfl) (by simp) ?_
      refine (Until.AllU.cons (o := { dst := some 30, op := Op.pick (Operand.tmp 23) (Operand.const (Value.bool true)) (Operand.tmp 29), type := 4, pos := "law.go:121", after := #[{ on := 9, ground := Ground.data }, { on := 15, ground := Ground.data }], guard := none }) rfl (fun K hK => ?_) Until.AllU.nil)
      go_simp
      refine hK.out _ _ (hT7) (fun _ => trivial) ?_
      clear hK K
      try simp only [Act.put, List.setIfInBounds_toArray, List.set_cons_zero, List.set_cons_succ]
      refine Until.wpU_done (by kernel_rfl) ?_ _
      refine NoPanic.normal ?_
      go_wp2_with fail
      go_meet
      exact ⟨rfl, hT7⟩
    case rest =>
      clear hT0
      obtain ⟨rfl, hT0⟩ := hcut
      clear hcp2
      go_upto_region 5 with fail
      obtain ⟨y0, y1, y2, y3, y4, -⟩ := row_cells hT0.one
      go_wp2_with fail
      clear y0 y1 y2 y3 y4
      refine (hcp1 _ hT0.below).out.mono ?_
      rintro e Y1 ⟨kg, xg, sg, ang, lng, cng, aig, lig, cig, rfl, hO, hb⟩
      have hw5 : Hid (w.heap.size + 1 < Y1.heap.size) := Nat.lt_of_lt_of_le (Array.getElem?_eq_some_iff.1 hT0.two).1 hb.size
      have hw4 : Hid (w.heap.size + 1 < _) := (Array.getElem?_eq_some_iff.1 hT0.two).1
      obtain ⟨hg, hG⟩ := bx_new hO hb.size
      have hT1 := (hT0.keep hb).keep ((Below.refl _ Y1).alloc (Nat.le_refl _) (.cells #[.int .i64 kg, .int .i64 xg, .string sg, .slice ang lng cng, .slice aig lig cig] 25))
      replace hG := hid_e hG
      clear hO hb hT0 hcp1
      go_upto_region 6 with fail
      generalize Y1.alloc (.cells #[.int .i64 kg, .int .i64 xg, .string sg, .slice ang lng cng, .slice aig lig cig] 25) = W5 at hG hT1 ⊢
      generalize Y1.heap.size = g5 at hG hw5 ⊢
      obtain ⟨y0, y1, y2, y3, y4, -⟩ := row_cells hG.out.box
      go_wp2_with fail
      clear y0 y1 y2 y3 y4
      refine (jcopy_own t1 _ _ hG.out.rep hS1.out).mono ?_
      rintro e Y2 ⟨kc, xc, sc, anc, lnc, cnc, aic, lic, cic, rfl, hO, hb⟩
      have hw6 : Hid (g5 < W5.heap.size) := (Array.getElem?_eq_some_iff.1 hG.out.box).1
      obtain ⟨hcT, hC⟩ := bx_new hO hb.size
      replace hT1 := (hT1.keep hb).keep ((Below.refl _ Y2).alloc (Nat.le_refl _) (.cells #[.int .i64 kc, .int .i64 xc, .string sc, .slice anc lnc cnc, .slice aic lic cic] 25))
      replace hG := hid_e ((hG.out.keep hb).keep ((Below.refl _ Y2).alloc (Nat.le_refl _) (.cells #[.int .i64 kc, .int .i64 xc, .string sc, .slice anc lnc cnc, .slice aic lic cic] 25)))
      replace hC := hid_e hC
      have hw7 : Hid (W5.heap.size ≤ Y2.heap.size) := hb.size
      clear hO hb
      go_upto_region 7 with fail
      generalize Y2.alloc (.cells #[.int .i64 kc, .int .i64 xc, .string sc, .slice anc lnc cnc, .slice aic lic cic] 25) = W6 at hG hC hT1 ⊢
      generalize Y2.heap.size = g6 at hC hw7 ⊢
      obtain ⟨y0, y1, y2, y3, y4, -⟩ := row_cells hG.out.box
      go_wp2_with fail
      clear y0 y1 y2 y3 y4
      refine (jcopy_own t1 _ _ hG.out.rep hS1.out).mono ?_
      rintro e Y3 ⟨kd, xd, sd, and, lnd, cnd, aid, lid, cid, rfl, hO, hb⟩
      have hw8 : Hid (g6 < W6.heap.size) := (Array.getElem?_eq_some_iff.1 hC.out.box).1
      obtain ⟨hdT, hD⟩ := bx_new hO hb.size
      replace hT1 := (hT1.keep hb).keep ((Below.refl _ Y3).alloc (Nat.le_refl _) (.cells #[.int .i64 kd, .int .i64 xd, .string sd, .slice and lnd cnd, .slice aid lid cid] 25))
      replace hG := hid_e ((hG.out.keep hb).keep ((Below.refl _ Y3).alloc (Nat.le_refl _) (.cells #[.int .i64 kd, .int .i64 xd, .string sd, .slice and lnd cnd, .slice aid lid cid] 25)))
      replace hC := hid_e ((hC.out.keep hb).keep ((Below.refl _ Y3).alloc (Nat.le_refl _) (.cells #[.int .i64 kd, .int .i64 xd, .string sd, .slice and lnd cnd, .slice aid lid cid] 25)))
      replace hD := hid_e hD
      have hw9 : Hid (W6.heap.size ≤ Y3.heap.size) := hb.size
      clear hO hb
      go_upto_region 8 with fail
      generalize Y3.alloc (.cells #[.int .i64 kd, .int .i64 xd, .string sd, .slice and lnd cnd, .slice aid lid cid] 25) = W7 at hG hC hD hT1 ⊢
      generalize Y3.heap.size = g7 at hD hw9 ⊢
      obtain ⟨y0, y1, y2, y3, y4, -⟩ := row_cells hC.out.box
      obtain ⟨z0, z1, z2, z3, z4, -⟩ := row_cells hT1.one
      go_wp2_with fail
      clear y0 y1 y2 y3 y4 z0 z1 z2 z3 z4
      refine (equal_any t1 t1 _ _ _ hC.out.rep (VRep.keep hT1.below _ _ hV1.out) hS1.out).mono ?_
      rw [hself.out]
      rintro e W8 ⟨rfl, hb⟩
      replace hT1 := hT1.keep hb
      replace hG := hid_e (hG.out.keep hb)
      replace hC := hid_e (hC.out.keep hb)
      replace hD := hid_e (hD.out.keep hb)
      clear hb
      obtain ⟨y0, y1, y2, y3, y4, -⟩ := row_cells hG.out.box
      obtain ⟨z0, z1, z2, z3, z4, -⟩ := row_cells hT1.one
      go_wp2_with fail
      clear y0 y1 y2 y3 y4 z0 z1 z2 z3 z4
      refine (equal_any t1 t1 _ _ _ hG.out.rep (VRep.keep hT1.below _ _ hV1.out) hS1.out).mono ?_
      rw [hself.out]
      rintro e W9 ⟨rfl, hb⟩
      replace hT1 := hT1.keep hb
      replace hG := hid_e (hG.out.keep hb)
      replace hC := hid_e (hC.out.keep hb)
      replace hD := hid_e (hD.out.keep hb)
      clear hb
      go_upto_region 10 with fail
      obtain ⟨y0, y1, y2, y3, y4, -⟩ := row_cells hC.out.box
      have hsp := hid_e (spoil_any hcT _ hC.out.own (by rw [hC.out.tr]; exact hS1.out))
      rw [hC.out.head] at hsp
      go_wp2_with fail
      clear y0 y1 y2 y3 y4
      refine hsp.out.mono ?_
      rintro e V1 ⟨rfl, hf⟩
      have hT2 := hT1.fr hf (fun b hb => by have := hC.out.rng b hb; have := hw4.out; have := hw5.out; have := hw6.out; omega)
      have hG2 := hid_e (hG.out.fr hf (fun b hb => .inr (by have := hC.out.rng b hb; have := hw6.out; omega)))
      have hD2 := hid_e (hD.out.fr hf (fun b hb => .inl (by have := hC.out.rng b hb; have := hw8.out; omega)))
      clear hf hsp hC hT1 hG hD
      go_upto_region 11 with fail
      obtain ⟨y0, y1, y2, y3, y4, -⟩ := row_cells hG2.out.box
      have hsp := hid_e (spoil_any hg _ hG2.out.own (by rw [hG2.out.tr]; exact hS1.out))
      rw [hG2.out.head] at hsp
      go_wp2_with fail
      clear y0 y1 y2 y3 y4
      refine hsp.out.mono ?_
      rintro e V2 ⟨rfl, hf⟩
      have hT3 := hT2.fr hf (fun b hb => by have := hG2.out.rng b hb; have := hw4.out; omega)
      have hD3 := hid_e (hD2.out.fr hf (fun b hb => .inl (by have := hG2.out.rng b hb; have := hw6.out; have := hw7.out; have := hw8.out; omega)))
      clear hf hsp hT2 hG2 hD2
      go_upto_region 12 with fail
      obtain ⟨y0, y1, y2, y3, y4, -⟩ := row_cells hD3.out.box
      obtain ⟨z0, z1, z2, z3, z4, -⟩ := row_cells hT3.one
      go_wp2_with fail
      clear y0 y1 y2 y3 y4 z0 z1 z2 z3 z4
      refine (equal_any t1 t1 _ _ _ hD3.out.rep (VRep.keep hT3.below _ _ hV1.out) hS1.out).mono ?_
      rw [hself.out]
      rintro e V3 ⟨rfl, hb⟩
      replace hT3 := hT3.keep hb
      replace hD3 := hid_e (hD3.out.keep hb)
      clear hb
      obtain ⟨y0, y1, y2, y3, y4, -⟩ := row_cells hD3.out.box
      have hap := hid_e (apart_true kd xd sd and lnd cnd aid lid cid hdT V3 (hid_e hD3.out.head) (hid_e hD3.out.own) (hid_e (small_pre hdT (by rw [hD3.out.tr]; exact hS1.out))) (hid_e (by have h1 := preT_parts hdT; rw [hD3.out.tr] at h1; have := hz.out; omega)))
      go_wp2_with fail
      clear y0 y1 y2 y3 y4
      refine hap.out.mono ?_
      rintro e V4 ⟨rfl, hf⟩
      have hT4 := hT3.fr hf (fun b hb => by have := hD3.out.rng b hb; have := hw4.out; have := hw5.out; have := hw6.out; have := hw7.out; have := hw8.out; omega)
      clear hf hap hD3 hT3
      have hlv := hid_e (live_true V4 (hE.out.below hT4.below h8) (hP.out.below hT4.below h8))
      go_wp2_with fail
      go_fit hlv.out
      rintro e V5 ⟨rfl, hb⟩
      have hT5 := hT4.keep hb
      clear hb hlv hT4
      go_wp2_with fail
      go_ret
      exact ⟨rfl, hT5.below⟩
end Go.Proofs.YtnccaidlcaeeaaaGreatDoor.Tree
