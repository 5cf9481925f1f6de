import Derived.Test.YtbcfkajcmbckbaaGreatDoorPB
import Derived.Test.YtbcfkajcmbckbaaGreatDoorPC
import Derived.Test.YtbcfkajcmbckbaaGreatDoorPD
import Derived.Test.YtbcfkajcmbckbaaGreatDoorIC
/-! The walk of SchemaRest. -/
namespace Go.Proofs.YtbcfkajcmbckbaaGreatDoor
open Go Go.RowKit

theorem itoa_inR {w : World} (h : PowW w) : ItoaIn w := fun x W hW h0 h1 => itoa_some x W h0 h1 (h.keep hW)

theorem names_src {t : Tr} {u : V5} {w : World} (hV : VRep w t u.cs) : t.names.length = u.ln ∧ (t.names = [] ∨ ∃ b o, u.an = some ⟨b, o, none⟩ ∧ ∀ j s, t.names[j]? = some s → w.cell? ⟨b, o + j, none⟩ = some (.string s)) := by
  obtain ⟨k, x, s', ns, its⟩ := t
  unfold VRep V5.cs five at hV
  obtain ⟨nm, a, c, he, ⟨an, cn, rfl, -, h⟩, -⟩ := hV
  simp only [List.cons.injEq, Value.slice.injEq] at he
  have e1 : u.an = an := he.2.2.2.1.1
  have e2 : u.ln = ns.length := he.2.2.2.1.2.1
  refine ⟨e2.symm, ?_⟩
  rcases h with h | ⟨b, o, rfl, -, h⟩
  · exact .inl h
  · exact .inr ⟨b, o, e1, h⟩
theorem flat_split : (vs : List V5) → (j : Nat) → (u : Value) → (flatV vs)[j]? = some u → ∃ q r v, j = q * 5 + r ∧ vs[q]? = some v ∧ v.cs[r]? = some u
  | [], j, u, h => by simp [flatV] at h
  | v :: vs, j, u, h => by
    have hl : v.cs.length = 5 := rfl
    unfold flatV at h
    rw [List.flatMap_cons] at h
    by_cases hj : j < 5
    · rw [List.getElem?_append_left (by omega)] at h
      exact ⟨0, j, v, by omega, rfl, h⟩
    · rw [List.getElem?_append_right (by omega), hl] at h
      obtain ⟨q, r, v', e, h1, h2⟩ := flat_split vs (j - 5) u h
      exact ⟨q + 1, r, v', by omega, by simpa using h1, h2⟩
theorem items_src {t : Tr} {u : V5} {w : World} (hV : VRep w t u.cs) : ∃ vs, t.items.length = u.li ∧ ValsAt w t.items vs ∧ (vs = [] ∨ ∃ b o, u.ai = some ⟨b, o, none⟩ ∧ ∀ j x, (flatV vs)[j]? = some x → w.cell? ⟨b, o + j, none⟩ = some x) := by
  obtain ⟨hrow, hli⟩ := rep_row hV
  rcases hrow with h | ⟨b, o, h1, h2, h3⟩
  · exact ⟨[], hli.symm, ⟨by rw [h]; rfl, fun q t v ht => by rw [h] at ht; simp at ht⟩, .inl rfl⟩
  · obtain ⟨vs, g1, g2⟩ := vals_of _ h3
    refine ⟨vs, hli.symm, g1, .inr ⟨b, o, h1, fun j x hj => ?_⟩⟩
    obtain ⟨q, r, v, e, hv, hr⟩ := flat_split vs j x hj
    rw [e, ← Nat.add_assoc]
    exact g2 q v hv r x hr
theorem vals_snoc {w : World} {ts : List Tr} {vs : List V5} {t : Tr} {v : V5} (h : ValsAt w ts vs) (hv : VRep w t v.cs) : ValsAt w (ts ++ [t]) (vs ++ [v]) := by
  refine ⟨by simp [h.1], fun q t' v' ht hv' => ?_⟩
  have hq := (List.getElem?_eq_some_iff.1 ht).1
  rw [List.length_append, List.length_singleton] at hq
  by_cases e : q < ts.length
  · rw [List.getElem?_append_left e] at ht
    rw [List.getElem?_append_left (by rw [h.1]; exact e)] at hv'
    exact h.2 q t' v' ht hv'
  · have e' : q = ts.length := by omega
    subst e'
    rw [List.getElem?_append_right (Nat.le_refl _), Nat.sub_self] at ht
    rw [List.getElem?_append_right (by rw [h.1]; exact Nat.le_refl _), h.1, Nat.sub_self] at hv'
    have e1 : t = t' := by simpa using ht
    have e2 : v = v' := by simpa using hv'
    rw [← e1, ← e2]; exact hv
theorem rep_rows {w : World} {lo : Nat} {na : Option Addr} {n nc : Nat} {ia : Option Addr} {m ic : Nat} {ns : List ByteArray} {ts : List Tr} {vs : List V5} (hn : Rw w lo 1 na n nc (strs ns)) (hi : Rw w lo 5 ia m ic (flatV vs)) (hln : ns.length = n) (hlm : vs.length = m) (hv : ValsAt w ts vs) :
    VRep w (.node 6 0 ⟨#[]⟩ ns ts) (⟨6, 0, ⟨#[]⟩, na, n, nc, ia, m, ic⟩ : V5).cs := by
  have hm := hn.mx
  have hm2 := hi.mx
  have l1 := hn.le
  have l2 := hi.le
  unfold maxLen at hm hm2
  unfold VRep V5.cs
  subst hln hlm
  refine ⟨_, ia, ic, by simp only [hv.1], ⟨na, nc, rfl, ⟨l1, by omega⟩, ?_⟩, ⟨by rw [← hv.1]; exact l2, by omega⟩, ?_⟩
  · by_cases hz : ns = []
    · exact .inl hz
    · rcases hn.pt with h0 | ⟨b, o, e, h1, h2, h3, h4⟩
      · have : ns.length = 0 := by omega
        exact absurd (List.eq_nil_of_length_eq_zero this) hz
      · exact .inr ⟨b, o, e, h2, fun j s hj => h4 j _ (by unfold strs; rw [List.getElem?_map, hj]; rfl)⟩
  · by_cases hz : ts = []
    · exact .inl hz
    · rcases hi.pt with h0 | ⟨b, o, e, h1, h2, h3, h4⟩
      · have : ts.length = 0 := by have := hv.1; omega
        exact absurd (List.eq_nil_of_length_eq_zero this) hz
      · exact .inr ⟨b, o, e, h2, rep_flat b ts vs o hv h4⟩
abbrev falseT : Tr := .node 1 0 ⟨#[]⟩ [] []
theorem vrep_false (w : World) : VRep w falseT (⟨1, 0, ⟨#[]⟩, none, 0, 0, none, 0, 0⟩ : V5).cs := by
  unfold falseT VRep V5.cs
  exact ⟨_, none, 0, rfl, ⟨none, 0, rfl, ⟨Nat.le_refl _, by omega⟩, .inl rfl⟩, ⟨Nat.le_refl _, by omega⟩, .inl rfl⟩
theorem vrep_only {w : World} {g1 g2 : Nat} {tp : Tr} {ty : TypeId} (h1 : w.heap[g1]? = some (.cells #[.string wProperties, .string wAdditional] ty (0, 0))) (h2 : RowT w (some ⟨g2, 0, none⟩) [tp, falseT]) :
    VRep w (onlyT tp) (⟨6, 0, ⟨#[]⟩, some ⟨g1, 0, none⟩, 2, 2, some ⟨g2, 0, none⟩, 2, 2⟩ : V5).cs := by
  unfold onlyT VRep V5.cs
  refine ⟨_, some ⟨g2, 0, none⟩, 2, rfl, ⟨some ⟨g1, 0, none⟩, 2, rfl, ⟨Nat.le_refl _, by decide⟩, .inr ⟨g1, 0, rfl, (Array.getElem?_eq_some_iff.1 h1).1, fun j s hj => ?_⟩⟩, ⟨Nat.le_refl _, by decide⟩, h2⟩
  rw [cell_of h1, Nat.zero_add]
  rcases j with _ | _ | j
  · have e : wProperties = s := by simpa using hj
    rw [← e]; rfl
  · have e : wAdditional = s := by simpa using hj
    rw [← e]; rfl
  · simp at hj
theorem small_only {t : Tr} (h : SmallT t) : SmallT (onlyT t) := by
  unfold onlyT
  simp only [SmallT, SmallL]
  refine ⟨by decide, by simp, fun n hn => ?_, by simp, h, ⟨by decide, by simp, fun n hn => by simp at hn, by simp, trivial⟩, trivial⟩
  simp only [List.mem_cons, List.not_mem_nil, or_false] at hn
  rcases hn with rfl | rfl <;> decide
theorem range_only {t : Tr} (h : RangeT t) : RangeT (onlyT t) := by
  unfold onlyT
  simp only [RangeT, RangeL]
  exact ⟨by decide, h, ⟨by decide, trivial⟩, trivial⟩
theorem small_snoc {v x : Tr} {s : ByteArray} (hv : SmallT v) (hx : SmallT x) (hs : s.size ≤ 140737488351232) (h1 : v.names.length ≤ 3000) (h2 : v.items.length ≤ 3000) : SmallT (snocT v s x) := by
  obtain ⟨k, y, z, ns, its⟩ := v
  unfold snocT
  simp only [Tr.names, Tr.items] at h1 h2 ⊢
  simp only [SmallT] at hv ⊢
  refine ⟨by decide, by simp; omega, fun n hn => ?_, by simp; omega, smallL_mem fun t ht => ?_⟩
  · rcases List.mem_append.1 hn with hn | hn
    · exact hv.2.2.1 n hn
    · rw [List.mem_singleton.1 hn]; exact hs
  · rcases List.mem_append.1 ht with ht | ht
    · exact mem_smallL hv.2.2.2.2 t ht
    · rw [List.mem_singleton.1 ht]; exact hx
theorem parts_names {a b c : Tr} (h : Prt.partsL [a, b, c] ≤ 3000) : b.names.length ≤ 3000 := by
  obtain ⟨k, y, z, ns, its⟩ := b
  simp only [Prt.partsL, Prt.partsT] at h
  show ns.length ≤ 3000
  omega
theorem small_names {t : Tr} (h : SmallT t) : t.names.length * 16 ≤ 140737488351232 := by
  obtain ⟨k, y, z, ns, its⟩ := t
  unfold SmallT at h
  exact h.2.1
set_option maxHeartbeats 16000000 in
set_option maxRecDepth 100000 in
theorem rest_true (tp tv tx : Tr) (up uv ux : V5) (s : ByteArray) (w : World) (hVp : Hid (VRep w tp up.cs)) (hSp : Hid (SmallT tp)) (hRp : Hid (RangeT tp)) (hVv : Hid (VRep w tv uv.cs)) (hSv : Hid (SmallT tv)) (hVx : Hid (VRep w tx ux.cs)) (hSx : Hid (SmallT tx)) (hSs : Hid (s.size ≤ 140737488351232)) (hE : Hid (EnvL w)) (hPw : Hid (PowW w)) :
    Calls Tryz.prog 3 #[.agg #[.int .i64 up.k, .int .i64 up.x, .string up.s, .slice up.an up.ln up.cn, .slice up.ai up.li up.ci, .int .i64 uv.k, .int .i64 uv.x, .string uv.s, .slice uv.an uv.ln uv.cn, .slice uv.ai uv.li uv.ci, .string s, .int .i64 ux.k, .int .i64 ux.x, .string ux.s, .slice ux.an ux.ln ux.cn, .slice ux.ai ux.li ux.ci]] w fun e w' => e = .returned (.bool true) ∧ Below w.heap.size w w' := by
  have hIt := hid_of (itoa_inR hPw.out)
  have hB0 := hid_of ((Below.refl _ w).alloc (Nat.le_refl _) (.cells #[.int .i64 up.k, .int .i64 up.x, .string up.s, .slice up.an up.ln up.cn, .slice up.ai up.li up.ci, .int .i64 uv.k, .int .i64 uv.x, .string uv.s, .slice uv.an uv.ln uv.cn, .slice uv.ai uv.li uv.ci, .string s, .int .i64 ux.k, .int .i64 ux.x, .string ux.s, .slice ux.an ux.ln ux.cn, .slice ux.ai ux.li ux.ci] 27))
  have n0 := hid_of (heap_alloc_new w (.cells #[.int .i64 up.k, .int .i64 up.x, .string up.s, .slice up.an up.ln up.cn, .slice up.ai up.li up.ci, .int .i64 uv.k, .int .i64 uv.x, .string uv.s, .slice uv.an uv.ln uv.cn, .slice uv.ai uv.li uv.ci, .string s, .int .i64 ux.k, .int .i64 ux.x, .string ux.s, .slice ux.an ux.ln ux.cn, .slice ux.ai ux.li ux.ci] 27))
  go_enter Tryz.func3, Tryz.ntmps3
  go_upto_region 1 with fail
  generalize w.alloc (.cells #[.int .i64 up.k, .int .i64 up.x, .string up.s, .slice up.an up.ln up.cn, .slice up.ai up.li up.ci, .int .i64 uv.k, .int .i64 uv.x, .string uv.s, .slice uv.an uv.ln uv.cn, .slice uv.ai uv.li uv.ci, .string s, .int .i64 ux.k, .int .i64 ux.x, .string ux.s, .slice ux.an ux.ln ux.cn, .slice ux.ai ux.li ux.ci] 27) = X at *
  have hBd : Hid (Below w.heap.size w X.drew) := below_drew hB0.out
  replace n0 : Hid (X.drew.heap[w.heap.size]? = some (.cells #[.int .i64 up.k, .int .i64 up.x, .string up.s, .slice up.an up.ln up.cn, .slice up.ai up.li up.ci, .int .i64 uv.k, .int .i64 uv.x, .string uv.s, .slice uv.an uv.ln uv.cn, .slice uv.ai uv.li uv.ci, .string s, .int .i64 ux.k, .int .i64 ux.x, .string ux.s, .slice ux.an ux.ln ux.cn, .slice ux.ai ux.li ux.ci] 27 (0, 0))) := n0
  refine first_region (C := ⟨_, X.drew, w.heap.size, up, uv, s, ux⟩) ⟨?_, rfl, cell_of n0.out 0, cell_of n0.out 1, cell_of n0.out 2, cell_of n0.out 3, cell_of n0.out 4, cell_of n0.out 5, cell_of n0.out 6, cell_of n0.out 7, cell_of n0.out 8, cell_of n0.out 9, cell_of n0.out 10, cell_of n0.out 11, cell_of n0.out 12, cell_of n0.out 13, cell_of n0.out 14, cell_of n0.out 15⟩ rfl ?_
  · simp
  intro v22 v23 v24 v25 v26 v27 v28 v29 b3 b4 b6 W1 hP
  have hB1 := hid_of (hBd.out.trans (hP.bel.mono hBd.out.size))
  have m3 := hid_of hP.p
  have m4 := hid_of hP.v
  have m6 := hid_of hP.x
  simp only at m3 m4 m6
  unfold V5.obj at m3 m4 m6
  clear hP n0 hBd hB0
  simp only [Act.put, List.setIfInBounds_toArray, List.set_cons_zero, List.set_cons_succ]
  obtain ⟨p0, p1, p2, p3, p4, -⟩ := row_cells m3.out
  have hob := hid_of (object_v wProperties tp up W1 (VRep.keep hB1.out _ _ hVp.out))
  unfold V5.v objU at hob
  go_wp2_with fail
  refine hob.out.mono ?_
  rintro e W2 ⟨hb, bn, bi, rfl, hVs⟩
  have hB2 := hid_of (hB1.out.trans (hb.mono hB1.out.size))
  replace m3 := hid_of (block_keep m3.out hb)
  replace m4 := hid_of (block_keep m4.out hb)
  replace m6 := hid_of (block_keep m6.out hb)
  clear p0 p1 p2 p3 p4
  clear hob hb hB1
  go_upto_region 3 with fail
  have hO := hid_of ((Below.refl W2.heap.size W2).alloc (Nat.le_refl _) (.cells #[.int .i64 6, .int .i64 0, .string ⟨#[]⟩, .slice (some ⟨bn, 0, none⟩) 1 1, .slice (some ⟨bi, 0, none⟩) 1 1] 25))
  have m7 := hid_of (heap_alloc_new W2 (.cells #[.int .i64 6, .int .i64 0, .string ⟨#[]⟩, .slice (some ⟨bn, 0, none⟩) 1 1, .slice (some ⟨bi, 0, none⟩) 1 1] 25))
  have hB3 := hid_of (hB2.out.trans (hO.out.mono hB2.out.size))
  replace m3 := hid_of (block_keep m3.out hO.out)
  replace m4 := hid_of (block_keep m4.out hO.out)
  replace m6 := hid_of (block_keep m6.out hO.out)
  have hVs3 := hid_of (VRep.keep hO.out _ _ hVs)
  obtain ⟨b7, hb7⟩ : ∃ b, Hid (W2.heap.size = b) := ⟨_, rfl⟩
  rw [hb7.out] at m7 ⊢
  clear hVs hO hB2
  generalize W2.alloc (.cells #[.int .i64 6, .int .i64 0, .string ⟨#[]⟩, .slice (some ⟨bn, 0, none⟩) 1 1, .slice (some ⟨bi, 0, none⟩) 1 1] 25) = W3 at *
  obtain ⟨p0, p1, p2, p3, p4, -⟩ := row_cells m3.out
  obtain ⟨q0, q1, q2, q3, q4, -⟩ := row_cells m4.out
  obtain ⟨r0, r1, r2, r3, r4, -⟩ := row_cells m6.out
  have hO := hid_of ((Below.refl W3.heap.size W3).alloc (Nat.le_refl _) (.cells #[.int .i64 up.k, .int .i64 up.x, .string up.s, .slice up.an up.ln up.cn, .slice up.ai up.li up.ci, .int .i64 uv.k, .int .i64 uv.x, .string uv.s, .slice uv.an uv.ln uv.cn, .slice uv.ai uv.li uv.ci, .int .i64 ux.k, .int .i64 ux.x, .string ux.s, .slice ux.an ux.ln ux.cn, .slice ux.ai ux.li ux.ci] 25))
  have hBo := hid_of (hB3.out.trans (hO.out.mono hB3.out.size))
  have hlg := fun c => hid_of (Prt.large_exact (some ⟨W3.heap.size, 0, none⟩) c 3 [tp, tv, tx] (W3.alloc (.cells #[.int .i64 up.k, .int .i64 up.x, .string up.s, .slice up.an up.ln up.cn, .slice up.ai up.li up.ci, .int .i64 uv.k, .int .i64 uv.x, .string uv.s, .slice uv.an uv.ln uv.cn, .slice uv.ai uv.li uv.ci, .int .i64 ux.k, .int .i64 ux.x, .string ux.s, .slice ux.an ux.ln ux.cn, .slice ux.ai ux.li ux.ci] 25)) rfl (by decide) (row_three (VRep.keep hBo.out _ _ hVp.out) (VRep.keep hBo.out _ _ hVv.out) (VRep.keep hBo.out _ _ hVx.out) (heap_alloc_new W3 _)) ⟨hSp.out, hSv.out, hSx.out, trivial⟩)
  replace m3 := hid_of (block_keep m3.out hO.out)
  replace m4 := hid_of (block_keep m4.out hO.out)
  replace m6 := hid_of (block_keep m6.out hO.out)
  replace m7 := hid_of (block_keep m7.out hO.out)
  replace hVs3 := hid_of (VRep.keep hO.out _ _ hVs3.out)
  clear hO hB3
  go_wp2_with fail
  refine (hlg _).out.mono ?_
  rintro e W4 ⟨⟨z, rfl, hz⟩, hb⟩
  have hB4 := hid_of (hBo.out.trans (hb.mono hBo.out.size))
  replace m3 := hid_of (block_keep m3.out hb)
  replace m4 := hid_of (block_keep m4.out hb)
  replace m6 := hid_of (block_keep m6.out hb)
  replace m7 := hid_of (block_keep m7.out hb)
  have hVs4 := hid_of (VRep.keep hb _ _ hVs3.out)
  replace hz := hid_of hz
  clear p0 p1 p2 p3 p4 q0 q1 q2 q3 q4 r0 r1 r2 r3 r4
  clear hlg hb hBo hVs3
  cases z
  rotate_left
  · clear hz
    go_wp2_with fail
    refine (live_any W4 (hid_of (hE.out.keep hB4.out))).mono ?_
    rintro e WL ⟨rfl, hbL⟩
    have hBL := hid_of (hB4.out.trans (hbL.mono hB4.out.size))
    clear hbL
    go_wp2_with fail
    go_ret
    exact ⟨rfl, hBL.out⟩
  have hpn := hid_of (parts_names (hz.out rfl))
  clear hz
  obtain ⟨p0, p1, p2, p3, p4, -⟩ := row_cells m7.out
  have hrd := hid_of (read_any (propT tp) (objU bn bi) W4 hVs4 (hid_of (small_obj (by decide) hSp.out)) (hid_of (range_obj hRp.out)))
  obtain ⟨zs, hzs⟩ : ∃ z, Hid (parseZ (propT tp) = z) := ⟨_, rfl⟩
  rw [hzs.out] at hrd
  unfold V5.v objU at hrd
  go_wp2_with fail
  refine hrd.out.mono ?_
  rintro e W5 ⟨rfl, hb⟩
  have hB5 := hid_of (hB4.out.trans (hb.mono hB4.out.size))
  replace m3 := hid_of (block_keep m3.out hb)
  replace m4 := hid_of (block_keep m4.out hb)
  replace m6 := hid_of (block_keep m6.out hb)
  replace m7 := hid_of (block_keep m7.out hb)
  have hVs5 := hid_of (VRep.keep hb _ _ hVs4.out)
  clear p0 p1 p2 p3 p4
  clear hrd hb hB4 hVs4
  by_cases ez : zs = 0
  rotate_left
  · have ez1 : (zs != 0) = true := by simpa using ez
    clear ez hzs
    go_wp2_with fail
    refine (live_any W5 (hid_of (hE.out.keep hB5.out))).mono ?_
    rintro e WL ⟨rfl, hbL⟩
    have hBL := hid_of (hB5.out.trans (hbL.mono hB5.out.size))
    clear hbL
    go_wp2_with fail
    go_ret
    exact ⟨rfl, hBL.out⟩
  subst ez
  obtain ⟨q0, q1, q2, q3, q4, -⟩ := row_cells m4.out
  by_cases ek : uv.k = 6
  rotate_left
  · have ek1 : (uv.k != 6) = true := by simpa using ek
    clear ek
    go_wp2_with fail
    refine (live_any W5 (hid_of (hE.out.keep hB5.out))).mono ?_
    rintro e WL ⟨rfl, hbL⟩
    have hBL := hid_of (hB5.out.trans (hbL.mono hB5.out.size))
    clear hbL
    go_wp2_with fail
    go_ret
    exact ⟨rfl, hBL.out⟩
  have ek1 : (uv.k != 6) = false := by simpa using ek
  have hkd := hid_of ((vrep_head hVv.out).1.trans ek)
  clear ek
  by_cases el : (uv.ln : Int) = (uv.li : Int)
  rotate_left
  · have el1 : ((uv.ln : Int) != (uv.li : Int)) = true := by simpa using el
    clear el
    go_wp2_with fail
    refine (live_any W5 (hid_of (hE.out.keep hB5.out))).mono ?_
    rintro e WL ⟨rfl, hbL⟩
    have hBL := hid_of (hB5.out.trans (hbL.mono hB5.out.size))
    clear hbL
    go_wp2_with fail
    go_ret
    exact ⟨rfl, hBL.out⟩
  have el1 : ((uv.ln : Int) != (uv.li : Int)) = false := by simpa using el
  replace el : Hid (uv.ln = uv.li) := by rw [Hid]; omega
  obtain ⟨hnl, hns⟩ := names_src hVv.out
  replace hnl := hid_of hnl
  replace hns := hid_of hns
  obtain ⟨hpl, hps⟩ := names_src hVp.out
  replace hpl := hid_of hpl
  replace hps := hid_of hps
  have hlq : (uv.ln : Int) ≤ 3000 := by have := hpn.out; have := hnl.out; omega
  have hlp : (up.ln : Int) ≤ 8796093021952 := by have h1 := (small_names hSp.out); have := hpl.out; omega
  go_wp2_with fail
  go_loopw [10] (fun iv wr => ∃ q : Nat, iv = .int .i64 q ∧ q ≤ uv.ln ∧ Hid (wr = W5) ∧ Hid (∀ j, j < q → tv.names[j]? ≠ some s)) (fun iv _ => uv.ln - (intOf iv).toNat)
  case atStart => exact ⟨0, rfl, Nat.zero_le _, rfl, fun j hj => absurd hj (Nat.not_lt_zero _)⟩
  case round =>
    obtain ⟨q, rfl, hq, hW, hno⟩ := hrel
    obtain rfl : W5 = wr := hW.out.symm
    clear hW
    have hqb : (q : Int) ≤ 8796093021952 := by omega
    by_cases hlt : q < uv.ln
    · have hi : (q : Int) < (uv.ln : Int) := by omega
      have hi0 : (0 : Int) ≤ (q : Int) := by omega
      obtain ⟨x, hx⟩ : ∃ x, Hid (tv.names[q]? = some x) := ⟨_, List.getElem?_eq_getElem (by have := hnl.out; omega)⟩
      obtain ⟨nb, no, hna, hnc⟩ := hns.out.resolve_left (by intro e; have := hx.out; rw [e] at this; simp at this)
      have g0 := stay hB5.out (hnc q x hx.out)
      replace hna := hid_of hna
      clear hnc
      rw [hna.out] at q3 ⊢
      by_cases hxs : x = s
      · subst hxs
        have hxe : (x.toList == x.toList) = true := by simp
        clear hx hno
        go_wp2_with fail
        refine (live_any W5 (hid_of (hE.out.keep hB5.out))).mono ?_
        rintro e WL ⟨rfl, hbL⟩
        have hBL := hid_of (hB5.out.trans (hbL.mono hB5.out.size))
        clear hbL
        go_wp2_with fail
        go_ret
        exact ⟨rfl, hBL.out⟩
      have hxe := bytes_ne hxs
      have hno2 : Hid (∀ j, j < q + 1 → tv.names[j]? ≠ some s) := fun j hj => by
        by_cases e : j = q
        · rw [e, hx.out]; exact fun h => hxs (Option.some.inj h)
        · exact hno.out j (by omega)
      clear hx hno hxs
      go_wp2_with fail
      exact ⟨⟨q + 1, by go_num, by omega, by first | exact hid_of rfl | exact hid_of trivial, hno2⟩, by simp [intOf]; omega⟩
    have hi : ¬ (q : Int) < (uv.ln : Int) := by omega
    have hsv : Hid (s ∉ tv.names) := fun hm => by
      obtain ⟨j, hj, he⟩ := List.getElem_of_mem hm
      exact hno.out j (by have := hnl.out; omega) (by rw [List.getElem?_eq_getElem hj, he])
    clear hno hq hqb hlt
    go_upto_region 13 with fail
    clear hi
    obtain ⟨p0, p1, p2, p3, p4, -⟩ := row_cells m3.out
    go_wp2_with fail
    go_loopw [11] (fun iv wr => ∃ q : Nat, iv = .int .i64 q ∧ q ≤ up.ln ∧ Hid (wr = W5) ∧ Hid (∀ j, j < q → tp.names[j]? ≠ some s)) (fun iv _ => up.ln - (intOf iv).toNat)
    case atStart => exact ⟨0, rfl, Nat.zero_le _, rfl, fun j hj => absurd hj (Nat.not_lt_zero _)⟩
    case round =>
      obtain ⟨q, rfl, hq, hW, hno⟩ := hrel
      obtain rfl : W5 = wr := hW.out.symm
      clear hW
      have hqb : (q : Int) ≤ 8796093021952 := by omega
      by_cases hlt : q < up.ln
      · have hi : (q : Int) < (up.ln : Int) := by omega
        have hi0 : (0 : Int) ≤ (q : Int) := by omega
        obtain ⟨x, hx⟩ : ∃ x, Hid (tp.names[q]? = some x) := ⟨_, List.getElem?_eq_getElem (by have := hpl.out; omega)⟩
        obtain ⟨nb, no, hna, hnc⟩ := hps.out.resolve_left (by intro e; have := hx.out; rw [e] at this; simp at this)
        have g0 := stay hB5.out (hnc q x hx.out)
        replace hna := hid_of hna
        clear hnc
        rw [hna.out] at p3 ⊢
        by_cases hxs : x = s
        · subst hxs
          have hxe : (x.toList == x.toList) = true := by simp
          clear hx hno
          go_wp2_with fail
          refine (live_any W5 (hid_of (hE.out.keep hB5.out))).mono ?_
          rintro e WL ⟨rfl, hbL⟩
          have hBL := hid_of (hB5.out.trans (hbL.mono hB5.out.size))
          clear hbL
          go_wp2_with fail
          go_ret
          exact ⟨rfl, hBL.out⟩
        have hxe := bytes_ne hxs
        have hno2 : Hid (∀ j, j < q + 1 → tp.names[j]? ≠ some s) := fun j hj => by
          by_cases e : j = q
          · rw [e, hx.out]; exact fun h => hxs (Option.some.inj h)
          · exact hno.out j (by omega)
        clear hx hno hxs
        go_wp2_with fail
        exact ⟨⟨q + 1, by go_num, by omega, by first | exact hid_of rfl | exact hid_of trivial, hno2⟩, by simp [intOf]; omega⟩
      have hi : ¬ (q : Int) < (up.ln : Int) := by omega
      have hsp : Hid (s ∉ tp.names) := fun hm => by
        obtain ⟨j, hj, he⟩ := List.getElem_of_mem hm
        exact hno.out j (by have := hpl.out; omega) (by rw [List.getElem?_eq_getElem hj, he])
      clear hno hq hqb hlt
      go_upto_region 18 with fail
      clear hi p0 p1 p2 p3 p4 q0 q1 q2 q3 q4 hps hpl
      obtain ⟨vs, hil, hvs, hvc⟩ := items_src hVv.out
      have hD5 := hid_of (below_drew (Below.refl W5.heap.size W5))
      have hBd : Hid (Below w.heap.size w W5.drew) := below_drew hB5.out
      refine rest_region (C := ⟨_, W5.drew, b4, b6, uv.an, uv.ln, uv.cn, uv.ai, uv.li, uv.ci, tv.names, vs, s, ux⟩) ⟨?_, ?_, ?_, ?_, cell_of m4.out 3, cell_of m4.out 4, cell_of m6.out 0, cell_of m6.out 1, cell_of m6.out 2, cell_of m6.out 3, cell_of m6.out 4, hnl.out, by rw [hvs.1]; exact hil, by show uv.ln ≤ _; omega, by show uv.li ≤ _; have := el.out; omega, ?_, ?_⟩ rfl ?_
      · simp
      · rfl
      · rfl
      · rfl
      · exact hns.out.imp id (fun ⟨b, o, e, h⟩ => ⟨b, o, e, fun j x hj => stay hBd.out (h j x hj)⟩)
      · exact hvc.imp id (fun ⟨b, o, e, h⟩ => ⟨b, o, e, fun j x hj => stay hBd.out (h j x hj)⟩)
      intro v90 v91 v92 v93 v94 v95 v96 v97 v98 v99 v100 v101 v102 v103 v104 b12 na nc ia ic W6 hP
      simp only [Act.put, List.setIfInBounds_toArray, List.set_cons_zero, List.set_cons_succ]
      have hB6 := hid_of (hBd.out.trans (hP.bel.mono hBd.out.size))
      have m12 := hid_of hP.box
      simp only at m12
      replace m3 := hid_of (block_keep (w := W5.drew) m3.out hP.bel)
      replace m4 := hid_of (block_keep (w := W5.drew) m4.out hP.bel)
      replace m6 := hid_of (block_keep (w := W5.drew) m6.out hP.bel)
      replace m7 := hid_of (block_keep (w := W5.drew) m7.out hP.bel)
      have hVs6 := hid_of (VRep.keep (hD5.out.trans (hP.bel.mono (Nat.le_refl _))) _ _ hVs5.out)
      have hVw : Hid (VRep W6 (snocT tv s tx) (⟨6, 0, ⟨#[]⟩, na, uv.ln + 1, nc, ia, uv.li + 1, ic⟩ : V5).cs) := rep_rows hP.rn hP.ri (by simp [hnl.out]) (by simp [hvs.1, hil]) (vals_snoc (hvs.keep hB6.out) (VRep.keep hB6.out _ _ hVx.out))
      have hnl2 : Hid (tv.names.length = tv.items.length) := by rw [Hid, hnl.out, hil]; exact el.out
      have hSw := hid_of (small_snoc hSv.out hSx.out hSs.out hpn.out (by rw [← hnl2.out]; exact hpn.out))
      clear hP hvs hvc hil hns hpn hBd hD5 hVs5 hB5
      obtain ⟨kv, hkv⟩ : ∃ k, Hid (keepsT (propT tp) tv = k) := ⟨_, rfl⟩
      have hkw := hid_of ((keeps_snoc tp tv s tx hkd.out hnl2.out hsp.out).trans hkv.out)
      obtain ⟨p0, p1, p2, p3, p4, -⟩ := row_cells m7.out
      obtain ⟨q0, q1, q2, q3, q4, -⟩ := row_cells m4.out
      have hkp := hid_of (keeps_good (u := objU bn bi) (v := uv) (hIt.out.later hB6.out) hVs6.out (small_obj (by decide) hSp.out) (VRep.keep hB6.out _ _ hVv.out) hSv.out (hE.out.keep hB6.out) hzs.out hkv.out)
      unfold V5.v at hkp
      go_wp2_with fail
      refine hkp.out.mono ?_
      rintro e W7 ⟨rfl, hb⟩
      have hB7 := hid_of (hB6.out.trans (hb.mono hB6.out.size))
      replace m3 := hid_of (block_keep m3.out hb)
      replace m4 := hid_of (block_keep m4.out hb)
      replace m6 := hid_of (block_keep m6.out hb)
      replace m7 := hid_of (block_keep m7.out hb)
      replace m12 := hid_of (block_keep m12.out hb)
      have hVs7 := hid_of (VRep.keep hb _ _ hVs6.out)
      have hVw7 := hid_of (VRep.keep hb _ _ hVw.out)
      clear hVs6 hVw
      clear p0 p1 p2 p3 p4 q0 q1 q2 q3 q4
      clear hkp hb hB6
      obtain ⟨p0, p1, p2, p3, p4, -⟩ := row_cells m7.out
      obtain ⟨q0, q1, q2, q3, q4, -⟩ := row_cells m12.out
      have hkp := hid_of (keeps_good (u := objU bn bi) (hIt.out.later hB7.out) hVs7.out (small_obj (by decide) hSp.out) hVw7.out hSw.out (hE.out.keep hB7.out) hzs.out hkw.out)
      unfold V5.v at hkp
      go_wp2_with fail
      refine hkp.out.mono ?_
      rintro e W8 ⟨rfl, hb⟩
      have hB8 := hid_of (hB7.out.trans (hb.mono hB7.out.size))
      replace m3 := hid_of (block_keep m3.out hb)
      replace m4 := hid_of (block_keep m4.out hb)
      replace m6 := hid_of (block_keep m6.out hb)
      replace m7 := hid_of (block_keep m7.out hb)
      replace m12 := hid_of (block_keep m12.out hb)
      have hVw8 := hid_of (VRep.keep hb _ _ hVw7.out)
      clear hVs7 hVw7
      clear p0 p1 p2 p3 p4 q0 q1 q2 q3 q4
      clear hkp hb hB7
      obtain ⟨p0, p1, p2, p3, p4, -⟩ := row_cells m3.out
      have pa0 := fun o => cell_alloc' p0 o
      have pa1 := fun o => cell_alloc' p1 o
      have pa2 := fun o => cell_alloc' p2 o
      have pa3 := fun o => cell_alloc' p3 o
      have pa4 := fun o => cell_alloc' p4 o
      go_upto_region 22 with fail
      clear pa0 pa1 pa2 pa3 pa4 p0 p1 p2 p3 p4
      have hb1 := (Below.refl _ W8).alloc (Nat.le_refl _) (.cells #[.string ⟨#[112, 114, 111, 112, 101, 114, 116, 105, 101, 115]⟩, .string ⟨#[97, 100, 100, 105, 116, 105, 111, 110, 97, 108]⟩] 9)
      have hb2 := hb1.alloc hb1.size (.cells #[.int .i64 up.k, .int .i64 up.x, .string up.s, .slice up.an up.ln up.cn, .slice up.ai up.li up.ci, .int .i64 1, .int .i64 0, .string ⟨#[]⟩, .slice none 0 0, .slice none 0 0] 25)
      have hbN := hid_of (hb2.alloc hb2.size (.cells #[.int .i64 6, .int .i64 0, .string ⟨#[]⟩, .slice (some ⟨W8.heap.size, 0, none⟩) 2 2, .slice (some ⟨W8.heap.size + 1, 0, none⟩) 2 2] 25))
      have hB9 := hid_of (hB8.out.trans (hbN.out.mono hB8.out.size))
      replace m3 := hid_of (block_keep m3.out hbN.out)
      replace m4 := hid_of (block_keep m4.out hbN.out)
      replace m6 := hid_of (block_keep m6.out hbN.out)
      replace m7 := hid_of (block_keep m7.out hbN.out)
      replace m12 := hid_of (block_keep m12.out hbN.out)
      have hVw9 := hid_of (VRep.keep hbN.out _ _ hVw8.out)
      have k1 := hid_of (block_keep (new1 W8 (.cells #[.string ⟨#[112, 114, 111, 112, 101, 114, 116, 105, 101, 115]⟩, .string ⟨#[97, 100, 100, 105, 116, 105, 111, 110, 97, 108]⟩] 9) (.cells #[.int .i64 up.k, .int .i64 up.x, .string up.s, .slice up.an up.ln up.cn, .slice up.ai up.li up.ci, .int .i64 1, .int .i64 0, .string ⟨#[]⟩, .slice none 0 0, .slice none 0 0] 25)) ((Below.refl _ _).alloc (Nat.le_refl _) (.cells #[.int .i64 6, .int .i64 0, .string ⟨#[]⟩, .slice (some ⟨W8.heap.size, 0, none⟩) 2 2, .slice (some ⟨W8.heap.size + 1, 0, none⟩) 2 2] 25)))
      have k2 := hid_of (block_keep (new2 W8 (.cells #[.string ⟨#[112, 114, 111, 112, 101, 114, 116, 105, 101, 115]⟩, .string ⟨#[97, 100, 100, 105, 116, 105, 111, 110, 97, 108]⟩] 9) (.cells #[.int .i64 up.k, .int .i64 up.x, .string up.s, .slice up.an up.ln up.cn, .slice up.ai up.li up.ci, .int .i64 1, .int .i64 0, .string ⟨#[]⟩, .slice none 0 0, .slice none 0 0] 25)) ((Below.refl _ _).alloc (Nat.le_refl _) (.cells #[.int .i64 6, .int .i64 0, .string ⟨#[]⟩, .slice (some ⟨W8.heap.size, 0, none⟩) 2 2, .slice (some ⟨W8.heap.size + 1, 0, none⟩) 2 2] 25)))
      have m17 := hid_of (heap_alloc_new ((W8.alloc (.cells #[.string ⟨#[112, 114, 111, 112, 101, 114, 116, 105, 101, 115]⟩, .string ⟨#[97, 100, 100, 105, 116, 105, 111, 110, 97, 108]⟩] 9)).alloc (.cells #[.int .i64 up.k, .int .i64 up.x, .string up.s, .slice up.an up.ln up.cn, .slice up.ai up.li up.ci, .int .i64 1, .int .i64 0, .string ⟨#[]⟩, .slice none 0 0, .slice none 0 0] 25)) (.cells #[.int .i64 6, .int .i64 0, .string ⟨#[]⟩, .slice (some ⟨W8.heap.size, 0, none⟩) 2 2, .slice (some ⟨W8.heap.size + 1, 0, none⟩) 2 2] 25))
      have hsz : Hid (((W8.alloc (.cells #[.string ⟨#[112, 114, 111, 112, 101, 114, 116, 105, 101, 115]⟩, .string ⟨#[97, 100, 100, 105, 116, 105, 111, 110, 97, 108]⟩] 9)).alloc (.cells #[.int .i64 up.k, .int .i64 up.x, .string up.s, .slice up.an up.ln up.cn, .slice up.ai up.li up.ci, .int .i64 1, .int .i64 0, .string ⟨#[]⟩, .slice none 0 0, .slice none 0 0] 25)).heap.size = W8.heap.size + 1 + 1) := by rw [Hid, World.size_alloc, World.size_alloc]
      rw [hsz.out] at m17
      have hVo := hid_of (vrep_only (tp := tp) k1.out (row_two (v2 := ⟨1, 0, ⟨#[]⟩, none, 0, 0, none, 0, 0⟩) (VRep.keep hB9.out _ _ hVp.out) (vrep_false _) k2.out))
      clear hb1 hb2 hbN k1 k2 hsz hB8 hVw8
      generalize ((W8.alloc (.cells #[.string ⟨#[112, 114, 111, 112, 101, 114, 116, 105, 101, 115]⟩, .string ⟨#[97, 100, 100, 105, 116, 105, 111, 110, 97, 108]⟩] 9)).alloc (.cells #[.int .i64 up.k, .int .i64 up.x, .string up.s, .slice up.an up.ln up.cn, .slice up.ai up.li up.ci, .int .i64 1, .int .i64 0, .string ⟨#[]⟩, .slice none 0 0, .slice none 0 0] 25)).alloc (.cells #[.int .i64 6, .int .i64 0, .string ⟨#[]⟩, .slice (some ⟨W8.heap.size, 0, none⟩) 2 2, .slice (some ⟨W8.heap.size + 1, 0, none⟩) 2 2] 25) = W9 at *
      obtain ⟨b17, hb17⟩ : ∃ b, Hid (W8.heap.size + 1 + 1 = b) := ⟨_, rfl⟩
      rw [hb17.out] at m17 ⊢
      obtain ⟨p0, p1, p2, p3, p4, -⟩ := row_cells m17.out
      have hrd := hid_of (read_any (onlyT tp) (⟨6, 0, ⟨#[]⟩, some ⟨W8.heap.size, 0, none⟩, 2, 2, some ⟨W8.heap.size + 1, 0, none⟩, 2, 2⟩ : V5) W9 hVo (hid_of (small_only hSp.out)) (hid_of (range_only hRp.out)))
      obtain ⟨zf, hzf⟩ : ∃ z, Hid (parseZ (onlyT tp) = z) := ⟨_, rfl⟩
      rw [hzf.out] at hrd
      unfold V5.v at hrd
      go_wp2_with fail
      refine hrd.out.mono ?_
      rintro e W10 ⟨rfl, hb⟩
      have hB10 := hid_of (hB9.out.trans (hb.mono hB9.out.size))
      replace m3 := hid_of (block_keep m3.out hb)
      replace m4 := hid_of (block_keep m4.out hb)
      replace m6 := hid_of (block_keep m6.out hb)
      replace m7 := hid_of (block_keep m7.out hb)
      replace m12 := hid_of (block_keep m12.out hb)
      replace m17 := hid_of (block_keep m17.out hb)
      have hVo10 := hid_of (VRep.keep hb _ _ hVo.out)
      have hVw10 := hid_of (VRep.keep hb _ _ hVw9.out)
      clear p0 p1 p2 p3 p4
      clear hrd hb hB9 hVo hVw9
      have hkk : (kv == kv) = true := by simp
      by_cases ef : zf = 0
      rotate_left
      · have ef1 : (zf != 0) = true := by simpa using ef
        clear ef hzf
        go_wp2_with fail
        refine (live_any W10 (hid_of (hE.out.keep hB10.out))).mono ?_
        rintro e WL ⟨rfl, hbL⟩
        have hBL := hid_of (hB10.out.trans (hbL.mono hB10.out.size))
        clear hbL
        go_wp2_with fail
        go_ret
        exact ⟨rfl, hBL.out⟩
      subst ef
      obtain ⟨p0, p1, p2, p3, p4, -⟩ := row_cells m17.out
      obtain ⟨q0, q1, q2, q3, q4, -⟩ := row_cells m12.out
      have hkp := hid_of (keeps_good (hIt.out.later hB10.out) hVo10.out (small_only hSp.out) hVw10.out hSw.out (hE.out.keep hB10.out) hzf.out (keeps_only tp tv s tx hnl2.out hsp.out))
      unfold V5.v at hkp
      go_wp2_with fail
      refine hkp.out.mono ?_
      rintro e W11 ⟨rfl, hb⟩
      have hB11 := hid_of (hB10.out.trans (hb.mono hB10.out.size))
      clear p0 p1 p2 p3 p4 q0 q1 q2 q3 q4
      clear hkp hb hB10
      go_wp2_with fail
      refine (live_any W11 (hid_of (hE.out.keep hB11.out))).mono ?_
      rintro e WL ⟨rfl, hbL⟩
      have hBL := hid_of (hB11.out.trans (hbL.mono hB11.out.size))
      clear hbL
      go_wp2_with fail
      go_ret
      exact ⟨rfl, hBL.out⟩
end Go.Proofs.YtbcfkajcmbckbaaGreatDoor
