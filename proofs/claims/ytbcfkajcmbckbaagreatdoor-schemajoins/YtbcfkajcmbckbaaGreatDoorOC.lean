import Derived.Test.YtbcfkajcmbckbaaGreatDoorOB
import Derived.Test.YtbcfkajcmbckbaaGreatDoorIC
/-! The walk of SchemaJoins. -/
namespace Go.Proofs.YtbcfkajcmbckbaaGreatDoor
open Go Go.RowKit

theorem itoa_in {w : World} (h : PowW w) : ItoaIn w := fun x W hW h0 h1 => itoa_some x W h0 h1 (h.keep hW)
theorem rules_le {t : Tr} (h : parseZ t = 0) : rulesZ t ≤ 128 := by
  obtain ⟨hc, ho, hn⟩ := (parse_iff t).1 h
  unfold rulesZ
  rw [if_pos hc]
  have := (schema_fits 0 0 t (by decide)).2 ((schema_fits 0 0 t (by decide)).1.2 ⟨ho, by omega⟩)
  omega
theorem parts_of {t : Tr} {u : V5} {w : World} (hp : parseZ t = 0) (hV : VRep w t u.cs) (hS : SmallT t) : Hid (u.ln = u.li) ∧ Hid ((u.li : Int) ≤ 1759218604390) ∧ Hid (t.names.length = u.ln) ∧ Hid (t.items.length = u.li) := by
  obtain ⟨hc, ⟨h6, -⟩, -⟩ := (parse_iff t).1 hp
  have hsm := small_parts hS
  obtain ⟨-, hli⟩ := rep_row hV
  obtain ⟨k, x, s, ns, its⟩ := t
  obtain rfl : k = 6 := h6
  obtain ⟨hl, -, -⟩ := check6_names hc
  unfold VRep V5.cs five at hV
  obtain ⟨nm, a, c, he, ⟨an, cn, rfl, -⟩, -⟩ := hV
  have e1 : u.ln = ns.length := by
    simp only [List.cons.injEq, Value.slice.injEq] at he
    exact he.2.2.2.1.2.1
  have e2 : u.li = its.length := hli
  have h3 := hsm.1
  simp only [Tr.items] at h3
  exact ⟨by rw [Hid]; omega, by rw [Hid]; omega, e1.symm, e2.symm⟩
theorem reads_of {t : Tr} {u : V5} {w : World} (hV : VRep w t u.cs) : ∀ (q : Nat) (s : ByteArray), t.names[q]? = some s → ∃ b o, u.an = some ⟨b, o, none⟩ ∧ w.cell? ⟨b, o + q, none⟩ = some (.string s) := by
  intro q s hs
  obtain ⟨k, x, s', ns, its⟩ := t
  unfold VRep V5.cs five at hV
  obtain ⟨nm, a, c, he, ⟨an, cn, rfl, -, h⟩, -⟩ := hV
  have e1 : u.an = an := by
    simp only [List.cons.injEq, Value.slice.injEq] at he
    exact he.2.2.2.1.1
  rcases h with h | ⟨b, o, rfl, -, h⟩
  · have hs2 : ns[q]? = some s := hs
    rw [h] at hs2
    simp at hs2
  · exact ⟨b, o, e1, h q s hs⟩
theorem vals_rev {w : World} {ts : List Tr} {vs : List V5} (h : ValsAt w ts vs) : ValsAt w ts.reverse vs.reverse := by
  refine ⟨by simp [h.1], fun q t v ht hv => ?_⟩
  have hq := (List.getElem?_eq_some_iff.1 ht).1
  rw [List.length_reverse] at hq
  rw [List.getElem?_reverse hq] at ht
  rw [List.getElem?_reverse (by rw [h.1]; exact hq), h.1] at hv
  exact h.2 _ t v ht hv
theorem items_of_rep {t : Tr} {u : V5} {w : World} (hV : VRep w t u.cs) : ∃ vs, Hid (ValsAt w t.items vs) ∧ Hid (∀ q v, vs[q]? = some v → ∃ b o, u.ai = some ⟨b, o, none⟩ ∧ CellsAt w b (o + q * 5) v.cs) := by
  obtain ⟨hrow, hli⟩ := rep_row hV
  rcases hrow with h | ⟨b, o, h1, h2, h3⟩
  · exact ⟨[], ⟨by rw [h]; rfl, fun q t v ht => by rw [h] at ht; simp at ht⟩, fun q v h => by simp at h⟩
  · obtain ⟨vs, g1, g2⟩ := vals_of _ h3
    exact ⟨vs, g1, fun q v hv => ⟨b, o, h1, g2 q v hv⟩⟩
set_option maxHeartbeats 16000000 in
set_option maxRecDepth 100000 in
theorem joins_true (ta tb tv : Tr) (ua ub uv : V5) (w : World) (hVa : Hid (VRep w ta ua.cs)) (hSa : Hid (SmallT ta)) (hRa : Hid (RangeT ta)) (hVb : Hid (VRep w tb ub.cs)) (hSb : Hid (SmallT tb)) (hRb : Hid (RangeT tb)) (hVv : Hid (VRep w tv uv.cs)) (hSv : Hid (SmallT tv)) (hE : Hid (EnvL w)) (hPw : Hid (PowW w)) :
    Calls Tryz.prog 4 #[ua.v, ub.v, uv.v] w fun e w' => e = .returned (.bool true) ∧ Below w.heap.size w w' := by
  have hIt := hid_of (itoa_in hPw.out)
  have hb1 := (Below.refl _ w).alloc (Nat.le_refl _) (ua.obj 25)
  have hb2 := hb1.alloc hb1.size (ub.obj 25)
  have hB := hid_of (hb2.alloc hb2.size (uv.obj 25))
  have n1 := hid_of (block_keep (new1 w (ua.obj 25) (ub.obj 25)) ((Below.refl _ _).alloc (Nat.le_refl _) (uv.obj 25)))
  have n2 := hid_of (block_keep (new2 w (ua.obj 25) (ub.obj 25)) ((Below.refl _ _).alloc (Nat.le_refl _) (uv.obj 25)))
  have n3 := hid_of (heap_alloc_new ((w.alloc (ua.obj 25)).alloc (ub.obj 25)) (uv.obj 25))
  have hsz : Hid (((w.alloc (ua.obj 25)).alloc (ub.obj 25)).heap.size = w.heap.size + 1 + 1) := by rw [Hid, World.size_alloc, World.size_alloc]
  rw [hsz.out] at n3
  clear hb1 hb2 hsz
  unfold V5.obj at *
  unfold V5.v
  go_enter Tryz.func4, Tryz.ntmps4
  go_upto_region 1 with fail
  generalize ((w.alloc (.cells #[.int .i64 ua.k, .int .i64 ua.x, .string ua.s, .slice ua.an ua.ln ua.cn, .slice ua.ai ua.li ua.ci] 25)).alloc (.cells #[.int .i64 ub.k, .int .i64 ub.x, .string ub.s, .slice ub.an ub.ln ub.cn, .slice ub.ai ub.li ub.ci] 25)).alloc (.cells #[.int .i64 uv.k, .int .i64 uv.x, .string uv.s, .slice uv.an uv.ln uv.cn, .slice uv.ai uv.li uv.ci] 25) = X at *
  obtain ⟨p0, p1, p2, p3, p4, -⟩ := row_cells n1.out
  obtain ⟨q0, q1, q2, q3, q4, -⟩ := row_cells n2.out
  obtain ⟨r0, r1, r2, r3, r4, -⟩ := row_cells n3.out
  have hBo := hB.out.alloc hB.out.size (.cells #[.int .i64 ua.k, .int .i64 ua.x, .string ua.s, .slice ua.an ua.ln ua.cn, .slice ua.ai ua.li ua.ci, .int .i64 ub.k, .int .i64 ub.x, .string ub.s, .slice ub.an ub.ln ub.cn, .slice ub.ai ub.li ub.ci, .int .i64 uv.k, .int .i64 uv.x, .string uv.s, .slice uv.an uv.ln uv.cn, .slice uv.ai uv.li uv.ci] 25)
  have hlg := fun c => hid_of (large_any (some ⟨X.heap.size, 0, none⟩) c [ta, tb, tv] (X.alloc (.cells #[.int .i64 ua.k, .int .i64 ua.x, .string ua.s, .slice ua.an ua.ln ua.cn, .slice ua.ai ua.li ua.ci, .int .i64 ub.k, .int .i64 ub.x, .string ub.s, .slice ub.an ub.ln ub.cn, .slice ub.ai ub.li ub.ci, .int .i64 uv.k, .int .i64 uv.x, .string uv.s, .slice uv.an uv.ln uv.cn, .slice uv.ai uv.li uv.ci] 25)) (hid_of (row_three (VRep.keep hBo _ _ hVa.out) (VRep.keep hBo _ _ hVb.out) (VRep.keep hBo _ _ hVv.out) (heap_alloc_new X _))) (by simp))
  rw [show [ta, tb, tv].length = 3 from rfl] at hlg
  replace hBo := hid_of hBo
  have hBx := hid_of ((Below.refl X.heap.size X).alloc (Nat.le_refl _) (.cells #[.int .i64 ua.k, .int .i64 ua.x, .string ua.s, .slice ua.an ua.ln ua.cn, .slice ua.ai ua.li ua.ci, .int .i64 ub.k, .int .i64 ub.x, .string ub.s, .slice ub.an ub.ln ub.cn, .slice ub.ai ub.li ub.ci, .int .i64 uv.k, .int .i64 uv.x, .string uv.s, .slice uv.an uv.ln uv.cn, .slice uv.ai uv.li uv.ci] 25))
  replace n1 := hid_of (block_keep n1.out hBx.out)
  replace n2 := hid_of (block_keep n2.out hBx.out)
  replace n3 := hid_of (block_keep n3.out hBx.out)
  clear hBx
  go_wp2_with fail
  refine (hlg _).out.mono ?_
  rintro e W1 ⟨⟨z, rfl⟩, hb⟩
  have hB1 := hid_of (hBo.out.trans (hb.mono hBo.out.size))
  replace n1 := hid_of (block_keep n1.out hb)
  replace n2 := hid_of (block_keep n2.out hb)
  replace n3 := hid_of (block_keep n3.out hb)
  clear p0 p1 p2 p3 p4 q0 q1 q2 q3 q4 r0 r1 r2 r3 r4
  clear hlg hb hBo hB
  cases z
  rotate_left
  · skip
    go_wp2_with fail
    refine (live_any W1 (hid_of (hE.out.keep hB1.out))).mono ?_
    rintro e WL ⟨rfl, hbL⟩
    have hBL := hid_of (hB1.out.trans (hbL.mono hB1.out.size))
    clear hbL
    go_wp2_with fail
    go_ret
    exact ⟨rfl, hBL.out⟩
  obtain ⟨p0, p1, p2, p3, p4, -⟩ := row_cells n1.out
  have hrd := hid_of (read_any ta ua W1 (hid_of (VRep.keep hB1.out _ _ hVa.out)) hSa hRa)
  have hra := hid_of (fun h : parseZ ta = 0 => rules_le h)
  obtain ⟨za, hza⟩ : ∃ z, Hid (parseZ ta = z) := ⟨_, rfl⟩
  obtain ⟨ra, hrz⟩ : ∃ z, Hid (rulesZ ta = z) := ⟨_, rfl⟩
  rw [hza.out, hrz.out] at hrd hra
  unfold V5.v at hrd
  go_wp2_with fail
  refine hrd.out.mono ?_
  rintro e W2 ⟨rfl, hb⟩
  have hB2 := hid_of (hB1.out.trans (hb.mono hB1.out.size))
  replace n1 := hid_of (block_keep n1.out hb)
  replace n2 := hid_of (block_keep n2.out hb)
  replace n3 := hid_of (block_keep n3.out hb)
  clear p0 p1 p2 p3 p4
  clear hrd hb hB1
  obtain ⟨p0, p1, p2, p3, p4, -⟩ := row_cells n2.out
  have hrd := hid_of (read_any tb ub W2 (hid_of (VRep.keep hB2.out _ _ hVb.out)) hSb hRb)
  have hrb := hid_of (fun h : parseZ tb = 0 => rules_le h)
  obtain ⟨zb, hzb⟩ : ∃ z, Hid (parseZ tb = z) := ⟨_, rfl⟩
  obtain ⟨rb, hry⟩ : ∃ z, Hid (rulesZ tb = z) := ⟨_, rfl⟩
  rw [hzb.out, hry.out] at hrd hrb
  unfold V5.v at hrd
  go_wp2_with fail
  refine hrd.out.mono ?_
  rintro e W3 ⟨rfl, hb⟩
  have hB3 := hid_of (hB2.out.trans (hb.mono hB2.out.size))
  replace n1 := hid_of (block_keep n1.out hb)
  replace n2 := hid_of (block_keep n2.out hb)
  replace n3 := hid_of (block_keep n3.out hb)
  clear p0 p1 p2 p3 p4
  clear hrd hb hB2 hrz hry
  by_cases ea : za = 0
  rotate_left
  · have ea1 : (za != 0) = true := by simpa using ea
    clear ea hza hra hrb
    go_wp2_with fail
    refine (live_any W3 (hid_of (hE.out.keep hB3.out))).mono ?_
    rintro e WL ⟨rfl, hbL⟩
    have hBL := hid_of (hB3.out.trans (hbL.mono hB3.out.size))
    clear hbL
    go_wp2_with fail
    go_ret
    exact ⟨rfl, hBL.out⟩
  by_cases eb : zb = 0
  rotate_left
  · have ea1 : (za != 0) = false := by simpa using ea
    have eb1 : (zb != 0) = true := by simpa using eb
    clear ea eb hza hzb hra hrb
    go_wp2_with fail
    refine (live_any W3 (hid_of (hE.out.keep hB3.out))).mono ?_
    rintro e WL ⟨rfl, hbL⟩
    have hBL := hid_of (hB3.out.trans (hbL.mono hB3.out.size))
    clear hbL
    go_wp2_with fail
    go_ret
    exact ⟨rfl, hBL.out⟩
  subst ea
  subst eb
  have hla := hra.out rfl
  have hlb := hrb.out rfl
  clear hra hrb
  have hlA : (ra : Int) ≤ 128 := by omega
  have hlB : (rb : Int) ≤ 128 := by omega
  clear hla hlb
  by_cases hm : (126 : Int) < (ra : Int) + (rb : Int)
  · skip
    go_wp2_with fail
    refine (live_any W3 (hid_of (hE.out.keep hB3.out))).mono ?_
    rintro e WL ⟨rfl, hbL⟩
    have hBL := hid_of (hB3.out.trans (hbL.mono hB3.out.size))
    clear hbL
    go_wp2_with fail
    go_ret
    exact ⟨rfl, hBL.out⟩
  obtain ⟨ka, hka⟩ : ∃ k, Hid (keepsT ta tv = k) := ⟨_, rfl⟩
  obtain ⟨kb, hkb⟩ : ∃ k, Hid (keepsT tb tv = k) := ⟨_, rfl⟩
  obtain ⟨p0, p1, p2, p3, p4, -⟩ := row_cells n1.out
  obtain ⟨r0, r1, r2, r3, r4, -⟩ := row_cells n3.out
  have hkp := hid_of (keeps_good (hIt.out.later hB3.out) (VRep.keep hB3.out _ _ hVa.out) hSa.out (VRep.keep hB3.out _ _ hVv.out) hSv.out (hE.out.keep hB3.out) hza.out hka.out)
  unfold V5.v at hkp
  go_wp2_with fail
  refine hkp.out.mono ?_
  rintro e W4 ⟨rfl, hb⟩
  have hB4 := hid_of (hB3.out.trans (hb.mono hB3.out.size))
  replace n1 := hid_of (block_keep n1.out hb)
  replace n2 := hid_of (block_keep n2.out hb)
  replace n3 := hid_of (block_keep n3.out hb)
  clear p0 p1 p2 p3 p4 r0 r1 r2 r3 r4
  clear hkp hb hm hlA hlB
  obtain ⟨p0, p1, p2, p3, p4, -⟩ := row_cells n2.out
  obtain ⟨r0, r1, r2, r3, r4, -⟩ := row_cells n3.out
  have hkp := hid_of (keeps_good (hIt.out.later hB4.out) (VRep.keep hB4.out _ _ hVb.out) hSb.out (VRep.keep hB4.out _ _ hVv.out) hSv.out (hE.out.keep hB4.out) hzb.out hkb.out)
  unfold V5.v at hkp
  go_wp2_with fail
  refine hkp.out.mono ?_
  rintro e W5 ⟨rfl, hb⟩
  have hB5 := hid_of (hB4.out.trans (hb.mono hB4.out.size))
  replace n1 := hid_of (block_keep n1.out hb)
  replace n2 := hid_of (block_keep n2.out hb)
  replace n3 := hid_of (block_keep n3.out hb)
  clear p0 p1 p2 p3 p4 r0 r1 r2 r3 r4
  clear hkp hb hB3
  clear hB4
  obtain ⟨hnl, hil, hnm, him⟩ := parts_of hza.out hVa.out hSa.out
  obtain ⟨vs, hvs, hvc⟩ := items_of_rep hVa.out
  have hlib : (ua.li : Int) ≤ 1759218604390 := hil.out
  go_upto_region 12 with fail
  have hst := hid_of (RevSt.start W5 _ rfl)
  have hBw := hid_of hst.out.bel
  obtain ⟨wb, hwb⟩ : ∃ b, Hid (W5.heap.size = b) := ⟨_, rfl⟩
  rw [hwb.out] at hst ⊢
  replace n1 := hid_of n1.out
  have m1 := hid_of (block_keep n1.out hBw.out)
  obtain ⟨p0, p1, p2, p3, p4, -⟩ := row_cells m1.out
  generalize W5.alloc (.cells #[.int .i64 6, .int .i64 0, .string ⟨#[]⟩, .slice none 0 0, .slice none 0 0] 25) = W6 at *
  have s3 : W5.cell? ⟨w.heap.size, 3, none⟩ = some (.slice ua.an ua.ln ua.cn) := cell_of n1.out 3
  have s4 : W5.cell? ⟨w.heap.size, 4, none⟩ = some (.slice ua.ai ua.li ua.ci) := cell_of n1.out 4
  replace s3 := hid_of s3
  replace s4 := hid_of s4
  have hrn := hid_of (reads_of hVa.out)
  obtain ⟨r9, hr9, hr91, hr92, hr93⟩ := info_parts A9
  obtain ⟨rv, hrv, hrv1, hrv2, hrv3⟩ := info_parts AV
  go_wp2_with fail
  go_loopw [16] (fun iv wr => ∃ (m : Nat) (na : Option Addr) (nc : Nat) (ia : Option Addr) (ic : Nat) (ns : List ByteArray) (us : List V5), iv = .int .i64 ((ua.li : Int) - 1 - (m : Int)) ∧ m ≤ ua.li ∧ Hid (RevSt W5 wr wb na nc ia ic ns us) ∧ Hid (ns = ta.names.reverse.take m) ∧ Hid (us = vs.reverse.take m)) (fun iv _ => (intOf iv + 1).toNat)
  case atStart => exact ⟨0, none, 0, none, 0, [], [], by go_num, Nat.zero_le _, hst, by rw [Hid, List.take_zero], by rw [Hid, List.take_zero]⟩
  case round =>
    obtain ⟨m, na, nc, ia, ic, ns, us, rfl, hm, hS, hns, hus⟩ := hrel
    clear hst m1 p0 p1 p2 p3 p4
    by_cases hlt : m < ua.li
    · obtain ⟨q, hq⟩ : ∃ q : Nat, (ua.li : Int) - 1 - (m : Int) = (q : Int) := ⟨ua.li - 1 - m, by omega⟩
      rw [hq]
      have hqn : (q : Int) < (ua.ln : Int) := by have := hnl.out; omega
      have hqi : (q : Int) < (ua.li : Int) := by omega
      have hq0 : (0 : Int) ≤ (q : Int) := by omega
      have hqm : Hid (q = ua.li - 1 - m) := by rw [Hid]; omega
      replace hq := hid_of hq
      obtain ⟨s, hs⟩ : ∃ s, Hid (ta.names[q]? = some s) := ⟨_, List.getElem?_eq_getElem (by have := hnm.out; omega)⟩
      obtain ⟨v, hv⟩ : ∃ v, Hid (vs[q]? = some v) := ⟨_, List.getElem?_eq_getElem (by have := hvs.out.1; have := him.out; omega)⟩
      obtain ⟨nb, no, hna, hnc⟩ := hrn.out q s hs.out
      obtain ⟨ib, io, hia, hic⟩ := hvc.out q v hv.out
      replace hna := hid_of hna
      replace hia := hid_of hia
      have g0 := hid_of (stay hB5.out hnc)
      have gi := hid_of (fun j u hj => stay hB5.out (hic j u hj))
      unfold V5.cs five at gi
      have k0 := hid_of (gi.out 0 _ rfl)
      have k1 := hid_of (gi.out 1 _ rfl)
      have k2 := hid_of (gi.out 2 _ rfl)
      have k3 := hid_of (gi.out 3 _ rfl)
      have k4 := hid_of (gi.out 4 _ rfl)
      simp only [Nat.add_zero] at k0
      clear gi hnc hic
      have hns2 : Hid (ns ++ [s] = ta.names.reverse.take (m + 1)) := by
        rw [Hid, hns.out, List.take_add_one, List.getElem?_reverse (by have := hnm.out; have := hnl.out; omega), show ta.names.length - 1 - m = q by have := hnm.out; have := hnl.out; have := hqm.out; omega, hs.out]; rfl
      have hus2 : Hid (us ++ [v] = vs.reverse.take (m + 1)) := by
        rw [Hid, hus.out, List.take_add_one, List.getElem?_reverse (by have := hvs.out.1; have := him.out; omega), show vs.length - 1 - m = q by have := hvs.out.1; have := him.out; have := hqm.out; omega, hv.out]; rfl
      have hnN : Hid (ns.length ≤ 1759218604390) := by rw [Hid, hns.out, List.length_take]; omega
      have hnU : Hid (us.length ≤ 1759218604390) := by rw [Hid, hus.out, List.length_take]; omega
      clear hns hus hs hv
      go_upto_region 15 with fail
      have hSd := hid_of hS.out.drew
      have a3 : wr.drew.cell? ⟨w.heap.size, 3, none⟩ = some (.slice ua.an ua.ln ua.cn) := stay hSd.out.bel s3.out
      have an0 : wr.drew.cell? ⟨nb, no + q, none⟩ = some (.string s) := stay hSd.out.bel g0.out
      refine wp_region_held_drew (S := fun V => V.cell? ⟨w.heap.size, 3, none⟩ = some (.slice ua.an ua.ln ua.cn) ∧ V.cell? ⟨nb, no + q, none⟩ = some (.string s)) (by kernel_rfl) ⟨a3, an0⟩ (fun hHeld => ?_)
      generalize wr.drew = Wd at *
      have w3 : Wd.cell? ⟨wb, 3, none⟩ = some (.slice na ns.length nc) := cell_of hSd.out.box 3
      have w3a := fun o => cell_alloc' w3 o
      have hS1 := hid_of (hSd.out.alloc (.cells #[.string s] 9))
      have x0 := hid_of hS1.out.rn
      have hsrc : Hid (Src Tryz.prog 1 22 (.slice (some ⟨Wd.heap.size, 0, none⟩) 1 1) 1 [.string s] (Wd.alloc (.cells #[.string s] 9))) := Src.of_block Tryz.underlying22 (heap_alloc_new Wd _) 1 1 rfl (fun u hu => by simp at hu; subst hu; rfl)
      have x6 : Hid (ns.length + 1 ≤ maxLen ∧ (ns.length + 1) * 16 ≤ 140737488355328 ∧ W5.heap.size ≤ (Wd.alloc (.cells #[.string s] 9)).heap.size) := by
        have h1 := hnN.out
        have h2 := hS1.out.bel.size
        unfold maxLen
        exact ⟨by omega, by omega, h2⟩
      have hfin : Hid (∀ g2 o2 c2 W3, Appd (Wd.alloc (.cells #[.string s] 9)) W5.heap.size 1 na ns.length 1 nc (strs ns ++ [.string s]) g2 o2 c2 W3 → Hid (Below W5.heap.size W5 W3) ∧ Hid (W3.heap[wb]? = some (.cells #[.int .i64 6, .int .i64 0, .string ⟨#[]⟩, .slice na ns.length nc, .slice ia us.length ic] 25 (0, 0))) ∧ Hid (RevSt W5 (W3.setCell ⟨wb, 3, none⟩ (.slice (some ⟨g2, o2, none⟩) (ns.length + 1) c2)) wb (some ⟨g2, o2, none⟩) c2 ia ic (ns ++ [s]) us)) := fun g2 o2 c2 W3 hA => ⟨(hS1.out.mid1 hA).1, (hS1.out.mid1 hA).2, hS1.out.name rfl hA⟩
      obtain ⟨UN, hUN⟩ : ∃ U, Hid (strs ns = U) := ⟨_, rfl⟩
      rw [hUN.out] at x0 hfin
      clear hS1 hS
      refine wpAnyH_take (i := 0) (v := .pointer (some ⟨wb, 3, none⟩)) rfl (by kernel_rfl) (by kernel_rfl) (by kernel_rfl) (fun _ _ _ h => h) (Or.inl ⟨by rfl, (by intro w' hS; obtain ⟨s1, s2⟩ := hS; go_simp)⟩) hHeld ?_
      simp only [Act.put, List.getElem_toArray, List.getElem_cons_zero, List.setIfInBounds_toArray, List.set_cons_zero, List.set_cons_succ]
      refine wpAnyH_take (i := 2) (v := .pointer (some ⟨w.heap.size, 3, none⟩)) rfl (by kernel_rfl) (by kernel_rfl) (by kernel_rfl) (fun _ _ _ h => h) (Or.inl ⟨by rfl, (by intro w' hS; obtain ⟨s1, s2⟩ := hS; go_simp)⟩) hHeld ?_
      simp only [Act.put, List.getElem_toArray, List.getElem_cons_zero, List.getElem_cons_succ, List.setIfInBounds_toArray, List.set_cons_zero, List.set_cons_succ]
      refine wpAnyH_take (i := 3) (v := .slice ua.an ua.ln ua.cn) rfl (by kernel_rfl) (by kernel_rfl) (by kernel_rfl) (fun _ _ _ h => h) (Or.inl ⟨by rfl, (by intro w' hS; obtain ⟨s1, s2⟩ := hS; go_simp)⟩) hHeld ?_
      simp only [Act.put, List.getElem_toArray, List.getElem_cons_zero, List.getElem_cons_succ, List.setIfInBounds_toArray, List.set_cons_zero, List.set_cons_succ]
      refine wpAnyH_take (i := 4) (v := .int .i64 q) rfl (by kernel_rfl) (by kernel_rfl) (by kernel_rfl) (fun _ _ _ h => h) (Or.inl ⟨by rfl, (by intro w' hS; obtain ⟨s1, s2⟩ := hS; go_simp)⟩) hHeld ?_
      simp only [Act.put, List.getElem_toArray, List.getElem_cons_zero, List.getElem_cons_succ, List.setIfInBounds_toArray, List.set_cons_zero, List.set_cons_succ]
      refine wpAnyH_take (i := 5) (v := .pointer (some ⟨nb, no + q, none⟩)) rfl (by kernel_rfl) (by kernel_rfl) (by kernel_rfl) (fun _ _ _ h => h) (Or.inl ⟨by rfl, (by intro w' hS; obtain ⟨s1, s2⟩ := hS; rw [hna.out]; go_simp)⟩) hHeld ?_
      simp only [Act.put, List.getElem_toArray, List.getElem_cons_zero, List.getElem_cons_succ, List.setIfInBounds_toArray, List.set_cons_zero, List.set_cons_succ]
      refine wpAnyH_take (i := 6) (v := .string s) rfl (by kernel_rfl) (by kernel_rfl) (by kernel_rfl) (fun _ _ _ h => h) (Or.inl ⟨by rfl, (by intro w' hS; obtain ⟨s1, s2⟩ := hS; go_simp)⟩) hHeld ?_
      simp only [Act.put, List.getElem_toArray, List.getElem_cons_zero, List.getElem_cons_succ, List.setIfInBounds_toArray, List.set_cons_zero, List.set_cons_succ]
      refine wpAnyH_ready (rs := [1, 7]) (by kernel_rfl) (by simp) ?_
      refine AllReadyH.cons rfl (fun K hK => ?_) ?_
      · rw [if_pos (by rfl)]
        go_simp
        refine hK.out _ _ ⟨a3, an0⟩ (fun hHeld => ?_)
        clear hK K
        try simp only [Act.put, List.getElem_toArray, List.getElem_cons_zero, List.getElem_cons_succ, List.setIfInBounds_toArray, List.set_cons_zero, List.set_cons_succ]
        refine wpAnyH_ready (rs := [7]) (by kernel_rfl) (by simp) ?_
        refine AllReadyH.cons rfl (fun K hK => ?_) ?_
        · rw [if_pos (by rfl)]
          go_simp
          refine hK.out _ _ ⟨cell_alloc' a3 _, cell_alloc' an0 _⟩ (fun hHeld => ?_)
          clear hK K
          try simp only [Act.put, List.getElem_toArray, List.getElem_cons_zero, List.getElem_cons_succ, List.setIfInBounds_toArray, List.set_cons_zero, List.set_cons_succ]
          refine wpAnyH_ready (rs := [8]) (by kernel_rfl) (by simp) ?_
          refine AllReadyH.cons rfl (fun K hK => ?_) ?_
          · refine step_append_rw _ (by rfl) _ _ 22 (by rfl) 9 r9 _ 1 16 Tryz.underlying22 hr9 hr91 hr92 hr93 (by rfl) W5.heap.size na ns.length nc UN (by rfl) x0.out.len x0.out.le x0.out.mx x0.out.rd _ (by rfl) 1 [.string s] hsrc.out (fun _ => x0.out) (by decide) x6.out.1 x6.out.2.1 x6.out.2.2 ?_
            intro g2 o2 c2 W3 hA
            obtain ⟨hB3, hbx, hS3⟩ := hfin.out g2 o2 c2 W3 hA
            have hsA := (⟨stay hB3.out s3.out, stay hB3.out g0.out⟩ : (fun V : World => V.cell? ⟨w.heap.size, 3, none⟩ = some (.slice ua.an ua.ln ua.cn) ∧ V.cell? ⟨nb, no + q, none⟩ = some (.string s)) W3)
            have hsS := (⟨stay hS3.out.bel s3.out, stay hS3.out.bel g0.out⟩ : (fun V : World => V.cell? ⟨w.heap.size, 3, none⟩ = some (.slice ua.an ua.ln ua.cn) ∧ V.cell? ⟨nb, no + q, none⟩ = some (.string s)) (W3.setCell ⟨wb, 3, none⟩ (.slice (some ⟨g2, o2, none⟩) (ns.length + 1) c2)))
            have y3 : W3.cell? ⟨wb, 3, none⟩ = some (.slice na ns.length nc) := cell_of hbx.out 3
            have yf : ∀ j, W3.frozen? ⟨wb, j, none⟩ = false := fun j => by simp [World.frozen?, hbx.out]
            clear hA hsrc hfin x0 w3 w3a a3 an0
            refine hK.out _ _ hsA (fun hHeld => ?_)
            clear hK K
            try simp only [Act.put, List.getElem_toArray, List.getElem_cons_zero, List.getElem_cons_succ, List.setIfInBounds_toArray, List.set_cons_zero, List.set_cons_succ]
            refine wpAnyH_take (i := 9) (v := .pointer (some ⟨wb, 3, none⟩)) rfl (by kernel_rfl) (by kernel_rfl) (by kernel_rfl) (fun _ _ _ h => h) (Or.inl ⟨by rfl, (by intro w' hS; obtain ⟨s1, s2⟩ := hS; go_simp)⟩) hHeld ?_
            simp only [Act.put, List.getElem_toArray, List.getElem_cons_zero, List.getElem_cons_succ, List.setIfInBounds_toArray, List.set_cons_zero, List.set_cons_succ]
            refine wpAnyH_ready (rs := [10]) (by kernel_rfl) (by simp) ?_
            refine AllReadyH.cons rfl (fun K hK => ?_) ?_
            · rw [if_pos (by rfl)]
              go_simp
              refine hK.out _ _ hsS (fun hHeld => ?_)
              clear hK K
              try simp only [Act.put, List.getElem_toArray, List.getElem_cons_zero, List.getElem_cons_succ, List.setIfInBounds_toArray, List.set_cons_zero, List.set_cons_succ]
              refine wpAnyH_done (by kernel_rfl) ?_ _
              have hSe := hid_of hS3.out.drew
              generalize W3.setCell ⟨wb, 3, none⟩ (.slice (some ⟨g2, o2, none⟩) (ns.length + 1) c2) = W7 at *
              clear hB3 hbx hsA hsS y3 yf
              go_upto_region 16 with fail
              have e3 : W7.drew.cell? ⟨w.heap.size, 4, none⟩ = some (.slice ua.ai ua.li ua.ci) := stay hSe.out.bel s4.out
              have en0 : W7.drew.cell? ⟨ib, io + q * 5, none⟩ = some (.int .i64 v.k) := stay hSe.out.bel k0.out
              have en1 : W7.drew.cell? ⟨ib, io + q * 5 + 1, none⟩ = some (.int .i64 v.x) := stay hSe.out.bel k1.out
              have en2 : W7.drew.cell? ⟨ib, io + q * 5 + 2, none⟩ = some (.string v.s) := stay hSe.out.bel k2.out
              have en3 : W7.drew.cell? ⟨ib, io + q * 5 + 3, none⟩ = some (.slice v.an v.ln v.cn) := stay hSe.out.bel k3.out
              have en4 : W7.drew.cell? ⟨ib, io + q * 5 + 4, none⟩ = some (.slice v.ai v.li v.ci) := stay hSe.out.bel k4.out
              refine wp_region_held_drew (S := fun V => V.cell? ⟨w.heap.size, 4, none⟩ = some (.slice ua.ai ua.li ua.ci) ∧ V.cell? ⟨ib, io + q * 5, none⟩ = some (.int .i64 v.k) ∧ V.cell? ⟨ib, io + q * 5 + 1, none⟩ = some (.int .i64 v.x) ∧ V.cell? ⟨ib, io + q * 5 + 2, none⟩ = some (.string v.s) ∧ V.cell? ⟨ib, io + q * 5 + 3, none⟩ = some (.slice v.an v.ln v.cn) ∧ V.cell? ⟨ib, io + q * 5 + 4, none⟩ = some (.slice v.ai v.li v.ci)) (by kernel_rfl) ⟨e3, en0, en1, en2, en3, en4⟩ (fun hHeld => ?_)
              generalize W7.drew = We at *
              have w4 : We.cell? ⟨wb, 4, none⟩ = some (.slice ia us.length ic) := cell_of hSe.out.box 4
              have w4a := fun o => cell_alloc' w4 o
              have hS1 := hid_of (hSe.out.alloc (.cells #[.int .i64 v.k, .int .i64 v.x, .string v.s, .slice v.an v.ln v.cn, .slice v.ai v.li v.ci] 25))
              have x0 := hid_of hS1.out.ri
              have hsrc : Hid (Src Tryz.prog 5 23 (.slice (some ⟨We.heap.size, 0, none⟩) 1 1) 1 [.int .i64 v.k, .int .i64 v.x, .string v.s, .slice v.an v.ln v.cn, .slice v.ai v.li v.ci] (We.alloc (.cells #[.int .i64 v.k, .int .i64 v.x, .string v.s, .slice v.an v.ln v.cn, .slice v.ai v.li v.ci] 25))) := Src.of_block Tryz.underlying23 (heap_alloc_new We _) 1 1 rfl (fun u hu => by simp at hu; rcases hu with rfl | rfl | rfl | rfl | rfl <;> rfl)
              have x6 : Hid (us.length + 1 ≤ maxLen ∧ (us.length + 1) * 80 ≤ 140737488355328 ∧ W5.heap.size ≤ (We.alloc (.cells #[.int .i64 v.k, .int .i64 v.x, .string v.s, .slice v.an v.ln v.cn, .slice v.ai v.li v.ci] 25)).heap.size) := by
                have h1 := hnU.out
                have h2 := hS1.out.bel.size
                unfold maxLen
                exact ⟨by omega, by omega, h2⟩
              have hfin : Hid (∀ g3 o3 c3 W8, Appd (We.alloc (.cells #[.int .i64 v.k, .int .i64 v.x, .string v.s, .slice v.an v.ln v.cn, .slice v.ai v.li v.ci] 25)) W5.heap.size 5 ia us.length 1 ic (flatV us ++ [.int .i64 v.k, .int .i64 v.x, .string v.s, .slice v.an v.ln v.cn, .slice v.ai v.li v.ci]) g3 o3 c3 W8 → Hid (Below W5.heap.size W5 W8) ∧ Hid (W8.heap[wb]? = some (.cells #[.int .i64 6, .int .i64 0, .string ⟨#[]⟩, .slice (some ⟨g2, o2, none⟩) (ns ++ [s]).length c2, .slice ia us.length ic] 25 (0, 0))) ∧ Hid (RevSt W5 (W8.setCell ⟨wb, 4, none⟩ (.slice (some ⟨g3, o3, none⟩) (us.length + 1) c3)) wb (some ⟨g2, o2, none⟩) c2 (some ⟨g3, o3, none⟩) c3 (ns ++ [s]) (us ++ [v]))) := fun g3 o3 c3 W8 hA => ⟨(hS1.out.mid2 hA).1, (hS1.out.mid2 hA).2, hS1.out.item rfl hA⟩
              obtain ⟨UI, hUI⟩ : ∃ U, Hid (flatV us = U) := ⟨_, rfl⟩
              rw [hUI.out] at x0 hfin
              clear hS1 hSe hS3
              refine wpAnyH_take (i := 0) (v := .pointer (some ⟨wb, 4, none⟩)) rfl (by kernel_rfl) (by kernel_rfl) (by kernel_rfl) (fun _ _ _ h => h) (Or.inl ⟨by rfl, (by intro w' hS; obtain ⟨s1, s2, s3, s4, s5, s6⟩ := hS; go_simp)⟩) hHeld ?_
              simp only [Act.put, List.getElem_toArray, List.getElem_cons_zero, List.setIfInBounds_toArray, List.set_cons_zero, List.set_cons_succ]
              refine wpAnyH_take (i := 2) (v := .pointer (some ⟨w.heap.size, 4, none⟩)) rfl (by kernel_rfl) (by kernel_rfl) (by kernel_rfl) (fun _ _ _ h => h) (Or.inl ⟨by rfl, (by intro w' hS; obtain ⟨s1, s2, s3, s4, s5, s6⟩ := hS; go_simp)⟩) hHeld ?_
              simp only [Act.put, List.getElem_toArray, List.getElem_cons_zero, List.getElem_cons_succ, List.setIfInBounds_toArray, List.set_cons_zero, List.set_cons_succ]
              refine wpAnyH_take (i := 3) (v := .slice ua.ai ua.li ua.ci) rfl (by kernel_rfl) (by kernel_rfl) (by kernel_rfl) (fun _ _ _ h => h) (Or.inl ⟨by rfl, (by intro w' hS; obtain ⟨s1, s2, s3, s4, s5, s6⟩ := hS; go_simp)⟩) hHeld ?_
              simp only [Act.put, List.getElem_toArray, List.getElem_cons_zero, List.getElem_cons_succ, List.setIfInBounds_toArray, List.set_cons_zero, List.set_cons_succ]
              refine wpAnyH_take (i := 4) (v := .int .i64 q) rfl (by kernel_rfl) (by kernel_rfl) (by kernel_rfl) (fun _ _ _ h => h) (Or.inl ⟨by rfl, (by intro w' hS; obtain ⟨s1, s2, s3, s4, s5, s6⟩ := hS; go_simp)⟩) hHeld ?_
              simp only [Act.put, List.getElem_toArray, List.getElem_cons_zero, List.getElem_cons_succ, List.setIfInBounds_toArray, List.set_cons_zero, List.set_cons_succ]
              refine wpAnyH_take (i := 5) (v := .pointer (some ⟨ib, io + q * 5, none⟩)) rfl (by kernel_rfl) (by kernel_rfl) (by kernel_rfl) (fun _ _ _ h => h) (Or.inl ⟨by rfl, (by intro w' hS; obtain ⟨s1, s2, s3, s4, s5, s6⟩ := hS; rw [hia.out]; go_simp)⟩) hHeld ?_
              simp only [Act.put, List.getElem_toArray, List.getElem_cons_zero, List.getElem_cons_succ, List.setIfInBounds_toArray, List.set_cons_zero, List.set_cons_succ]
              refine wpAnyH_take (i := 6) (v := .agg #[.int .i64 v.k, .int .i64 v.x, .string v.s, .slice v.an v.ln v.cn, .slice v.ai v.li v.ci]) rfl (by kernel_rfl) (by kernel_rfl) (by kernel_rfl) (fun _ _ _ h => h) (Or.inl ⟨by rfl, (by intro w' hS; obtain ⟨s1, s2, s3, s4, s5, s6⟩ := hS; go_simp)⟩) hHeld ?_
              simp only [Act.put, List.getElem_toArray, List.getElem_cons_zero, List.getElem_cons_succ, List.setIfInBounds_toArray, List.set_cons_zero, List.set_cons_succ]
              refine wpAnyH_ready (rs := [1, 7]) (by kernel_rfl) (by simp) ?_
              refine AllReadyH.cons rfl (fun K hK => ?_) ?_
              · rw [if_pos (by rfl)]
                go_simp
                refine hK.out _ _ ⟨e3, en0, en1, en2, en3, en4⟩ (fun hHeld => ?_)
                clear hK K
                try simp only [Act.put, List.getElem_toArray, List.getElem_cons_zero, List.getElem_cons_succ, List.setIfInBounds_toArray, List.set_cons_zero, List.set_cons_succ]
                refine wpAnyH_ready (rs := [7]) (by kernel_rfl) (by simp) ?_
                refine AllReadyH.cons rfl (fun K hK => ?_) ?_
                · rw [if_pos (by rfl)]
                  go_simp
                  refine hK.out _ _ ⟨cell_alloc' e3 _, cell_alloc' en0 _, cell_alloc' en1 _, cell_alloc' en2 _, cell_alloc' en3 _, cell_alloc' en4 _⟩ (fun hHeld => ?_)
                  clear hK K
                  try simp only [Act.put, List.getElem_toArray, List.getElem_cons_zero, List.getElem_cons_succ, List.setIfInBounds_toArray, List.set_cons_zero, List.set_cons_succ]
                  refine wpAnyH_ready (rs := [8]) (by kernel_rfl) (by simp) ?_
                  refine AllReadyH.cons rfl (fun K hK => ?_) ?_
                  · refine step_append_rw _ (by rfl) _ _ 23 (by rfl) 25 rv _ 5 80 Tryz.underlying23 hrv hrv1 hrv2 hrv3 (by rfl) W5.heap.size ia us.length ic UI (by rfl) x0.out.len x0.out.le x0.out.mx x0.out.rd _ (by rfl) 1 [.int .i64 v.k, .int .i64 v.x, .string v.s, .slice v.an v.ln v.cn, .slice v.ai v.li v.ci] hsrc.out (fun _ => x0.out) (by decide) x6.out.1 x6.out.2.1 x6.out.2.2 ?_
                    intro g3 o3 c3 W8 hA
                    obtain ⟨hB3, hbx, hS4⟩ := hfin.out g3 o3 c3 W8 hA
                    have hsA := (⟨stay hB3.out s4.out, stay hB3.out k0.out, stay hB3.out k1.out, stay hB3.out k2.out, stay hB3.out k3.out, stay hB3.out k4.out⟩ : (fun V : World => V.cell? ⟨w.heap.size, 4, none⟩ = some (.slice ua.ai ua.li ua.ci) ∧ V.cell? ⟨ib, io + q * 5, none⟩ = some (.int .i64 v.k) ∧ V.cell? ⟨ib, io + q * 5 + 1, none⟩ = some (.int .i64 v.x) ∧ V.cell? ⟨ib, io + q * 5 + 2, none⟩ = some (.string v.s) ∧ V.cell? ⟨ib, io + q * 5 + 3, none⟩ = some (.slice v.an v.ln v.cn) ∧ V.cell? ⟨ib, io + q * 5 + 4, none⟩ = some (.slice v.ai v.li v.ci)) W8)
                    have hsS := (⟨stay hS4.out.bel s4.out, stay hS4.out.bel k0.out, stay hS4.out.bel k1.out, stay hS4.out.bel k2.out, stay hS4.out.bel k3.out, stay hS4.out.bel k4.out⟩ : (fun V : World => V.cell? ⟨w.heap.size, 4, none⟩ = some (.slice ua.ai ua.li ua.ci) ∧ V.cell? ⟨ib, io + q * 5, none⟩ = some (.int .i64 v.k) ∧ V.cell? ⟨ib, io + q * 5 + 1, none⟩ = some (.int .i64 v.x) ∧ V.cell? ⟨ib, io + q * 5 + 2, none⟩ = some (.string v.s) ∧ V.cell? ⟨ib, io + q * 5 + 3, none⟩ = some (.slice v.an v.ln v.cn) ∧ V.cell? ⟨ib, io + q * 5 + 4, none⟩ = some (.slice v.ai v.li v.ci)) (W8.setCell ⟨wb, 4, none⟩ (.slice (some ⟨g3, o3, none⟩) (us.length + 1) c3)))
                    have y3 : W8.cell? ⟨wb, 4, none⟩ = some (.slice ia us.length ic) := cell_of hbx.out 4
                    have yf : ∀ j, W8.frozen? ⟨wb, j, none⟩ = false := fun j => by simp [World.frozen?, hbx.out]
                    clear hA hsrc hfin x0 w4 w4a e3 en0 en1 en2 en3 en4
                    refine hK.out _ _ hsA (fun hHeld => ?_)
                    clear hK K
                    try simp only [Act.put, List.getElem_toArray, List.getElem_cons_zero, List.getElem_cons_succ, List.setIfInBounds_toArray, List.set_cons_zero, List.set_cons_succ]
                    refine wpAnyH_take (i := 9) (v := .pointer (some ⟨wb, 4, none⟩)) rfl (by kernel_rfl) (by kernel_rfl) (by kernel_rfl) (fun _ _ _ h => h) (Or.inl ⟨by rfl, (by intro w' hS; obtain ⟨s1, s2, s3, s4, s5, s6⟩ := hS; go_simp)⟩) hHeld ?_
                    simp only [Act.put, List.getElem_toArray, List.getElem_cons_zero, List.getElem_cons_succ, List.setIfInBounds_toArray, List.set_cons_zero, List.set_cons_succ]
                    refine wpAnyH_ready (rs := [10]) (by kernel_rfl) (by simp) ?_
                    refine AllReadyH.cons rfl (fun K hK => ?_) ?_
                    · rw [if_pos (by rfl)]
                      go_simp
                      refine hK.out _ _ hsS (fun hHeld => ?_)
                      clear hK K
                      try simp only [Act.put, List.getElem_toArray, List.getElem_cons_zero, List.getElem_cons_succ, List.setIfInBounds_toArray, List.set_cons_zero, List.set_cons_succ]
                      refine wpAnyH_done (by kernel_rfl) ?_ _
                      clear hsA hsS hB3 hbx y3 yf
                      generalize W8.setCell ⟨wb, 4, none⟩ (.slice (some ⟨g3, o3, none⟩) (us.length + 1) c3) = W9 at *
                      go_wp2_with fail
                      go_roundw
                      case rel => exact ⟨m + 1, _, _, _, _, _, _, by rw [← hq.out]; go_num, by omega, hS4, hns2, hus2⟩
                      case measure => have := hq.out; simp only [intOf]; omega
                    exact AllReadyH.nil
                  exact AllReadyH.nil
                exact AllReadyH.nil
              refine AllReadyH.cons rfl (fun K hK => ?_) ?_
              · rw [if_pos (by rfl)]
                go_simp
                refine hK.out _ _ ⟨cell_alloc' e3 _, cell_alloc' en0 _, cell_alloc' en1 _, cell_alloc' en2 _, cell_alloc' en3 _, cell_alloc' en4 _⟩ (fun hHeld => ?_)
                clear hK K
                try simp only [Act.put, List.getElem_toArray, List.getElem_cons_zero, List.getElem_cons_succ, List.setIfInBounds_toArray, List.set_cons_zero, List.set_cons_succ]
                refine wpAnyH_ready (rs := [1]) (by kernel_rfl) (by simp) ?_
                refine AllReadyH.cons rfl (fun K hK => ?_) ?_
                · rw [if_pos (by rfl)]
                  go_simp
                  refine hK.out _ _ ⟨cell_alloc' e3 _, cell_alloc' en0 _, cell_alloc' en1 _, cell_alloc' en2 _, cell_alloc' en3 _, cell_alloc' en4 _⟩ (fun hHeld => ?_)
                  clear hK K
                  try simp only [Act.put, List.getElem_toArray, List.getElem_cons_zero, List.getElem_cons_succ, List.setIfInBounds_toArray, List.set_cons_zero, List.set_cons_succ]
                  refine wpAnyH_ready (rs := [8]) (by kernel_rfl) (by simp) ?_
                  refine AllReadyH.cons rfl (fun K hK => ?_) ?_
                  · refine step_append_rw _ (by rfl) _ _ 23 (by rfl) 25 rv _ 5 80 Tryz.underlying23 hrv hrv1 hrv2 hrv3 (by rfl) W5.heap.size ia us.length ic UI (by rfl) x0.out.len x0.out.le x0.out.mx x0.out.rd _ (by rfl) 1 [.int .i64 v.k, .int .i64 v.x, .string v.s, .slice v.an v.ln v.cn, .slice v.ai v.li v.ci] hsrc.out (fun _ => x0.out) (by decide) x6.out.1 x6.out.2.1 x6.out.2.2 ?_
                    intro g3 o3 c3 W8 hA
                    obtain ⟨hB3, hbx, hS4⟩ := hfin.out g3 o3 c3 W8 hA
                    have hsA := (⟨stay hB3.out s4.out, stay hB3.out k0.out, stay hB3.out k1.out, stay hB3.out k2.out, stay hB3.out k3.out, stay hB3.out k4.out⟩ : (fun V : World => V.cell? ⟨w.heap.size, 4, none⟩ = some (.slice ua.ai ua.li ua.ci) ∧ V.cell? ⟨ib, io + q * 5, none⟩ = some (.int .i64 v.k) ∧ V.cell? ⟨ib, io + q * 5 + 1, none⟩ = some (.int .i64 v.x) ∧ V.cell? ⟨ib, io + q * 5 + 2, none⟩ = some (.string v.s) ∧ V.cell? ⟨ib, io + q * 5 + 3, none⟩ = some (.slice v.an v.ln v.cn) ∧ V.cell? ⟨ib, io + q * 5 + 4, none⟩ = some (.slice v.ai v.li v.ci)) W8)
                    have hsS := (⟨stay hS4.out.bel s4.out, stay hS4.out.bel k0.out, stay hS4.out.bel k1.out, stay hS4.out.bel k2.out, stay hS4.out.bel k3.out, stay hS4.out.bel k4.out⟩ : (fun V : World => V.cell? ⟨w.heap.size, 4, none⟩ = some (.slice ua.ai ua.li ua.ci) ∧ V.cell? ⟨ib, io + q * 5, none⟩ = some (.int .i64 v.k) ∧ V.cell? ⟨ib, io + q * 5 + 1, none⟩ = some (.int .i64 v.x) ∧ V.cell? ⟨ib, io + q * 5 + 2, none⟩ = some (.string v.s) ∧ V.cell? ⟨ib, io + q * 5 + 3, none⟩ = some (.slice v.an v.ln v.cn) ∧ V.cell? ⟨ib, io + q * 5 + 4, none⟩ = some (.slice v.ai v.li v.ci)) (W8.setCell ⟨wb, 4, none⟩ (.slice (some ⟨g3, o3, none⟩) (us.length + 1) c3)))
                    have y3 : W8.cell? ⟨wb, 4, none⟩ = some (.slice ia us.length ic) := cell_of hbx.out 4
                    have yf : ∀ j, W8.frozen? ⟨wb, j, none⟩ = false := fun j => by simp [World.frozen?, hbx.out]
                    clear hA hsrc hfin x0 w4 w4a e3 en0 en1 en2 en3 en4
                    refine hK.out _ _ hsA (fun hHeld => ?_)
                    clear hK K
                    try simp only [Act.put, List.getElem_toArray, List.getElem_cons_zero, List.getElem_cons_succ, List.setIfInBounds_toArray, List.set_cons_zero, List.set_cons_succ]
                    refine wpAnyH_take (i := 9) (v := .pointer (some ⟨wb, 4, none⟩)) rfl (by kernel_rfl) (by kernel_rfl) (by kernel_rfl) (fun _ _ _ h => h) (Or.inl ⟨by rfl, (by intro w' hS; obtain ⟨s1, s2, s3, s4, s5, s6⟩ := hS; go_simp)⟩) hHeld ?_
                    simp only [Act.put, List.getElem_toArray, List.getElem_cons_zero, List.getElem_cons_succ, List.setIfInBounds_toArray, List.set_cons_zero, List.set_cons_succ]
                    refine wpAnyH_ready (rs := [10]) (by kernel_rfl) (by simp) ?_
                    refine AllReadyH.cons rfl (fun K hK => ?_) ?_
                    · rw [if_pos (by rfl)]
                      go_simp
                      refine hK.out _ _ hsS (fun hHeld => ?_)
                      clear hK K
                      try simp only [Act.put, List.getElem_toArray, List.getElem_cons_zero, List.getElem_cons_succ, List.setIfInBounds_toArray, List.set_cons_zero, List.set_cons_succ]
                      refine wpAnyH_done (by kernel_rfl) ?_ _
                      clear hsA hsS hB3 hbx y3 yf
                      generalize W8.setCell ⟨wb, 4, none⟩ (.slice (some ⟨g3, o3, none⟩) (us.length + 1) c3) = W9 at *
                      go_wp2_with fail
                      go_roundw
                      case rel => exact ⟨m + 1, _, _, _, _, _, _, by rw [← hq.out]; go_num, by omega, hS4, hns2, hus2⟩
                      case measure => have := hq.out; simp only [intOf]; omega
                    exact AllReadyH.nil
                  exact AllReadyH.nil
                exact AllReadyH.nil
              exact AllReadyH.nil
            exact AllReadyH.nil
          exact AllReadyH.nil
        exact AllReadyH.nil
      refine AllReadyH.cons rfl (fun K hK => ?_) ?_
      · rw [if_pos (by rfl)]
        go_simp
        refine hK.out _ _ ⟨cell_alloc' a3 _, cell_alloc' an0 _⟩ (fun hHeld => ?_)
        clear hK K
        try simp only [Act.put, List.getElem_toArray, List.getElem_cons_zero, List.getElem_cons_succ, List.setIfInBounds_toArray, List.set_cons_zero, List.set_cons_succ]
        refine wpAnyH_ready (rs := [1]) (by kernel_rfl) (by simp) ?_
        refine AllReadyH.cons rfl (fun K hK => ?_) ?_
        · rw [if_pos (by rfl)]
          go_simp
          refine hK.out _ _ ⟨cell_alloc' a3 _, cell_alloc' an0 _⟩ (fun hHeld => ?_)
          clear hK K
          try simp only [Act.put, List.getElem_toArray, List.getElem_cons_zero, List.getElem_cons_succ, List.setIfInBounds_toArray, List.set_cons_zero, List.set_cons_succ]
          refine wpAnyH_ready (rs := [8]) (by kernel_rfl) (by simp) ?_
          refine AllReadyH.cons rfl (fun K hK => ?_) ?_
          · refine step_append_rw _ (by rfl) _ _ 22 (by rfl) 9 r9 _ 1 16 Tryz.underlying22 hr9 hr91 hr92 hr93 (by rfl) W5.heap.size na ns.length nc UN (by rfl) x0.out.len x0.out.le x0.out.mx x0.out.rd _ (by rfl) 1 [.string s] hsrc.out (fun _ => x0.out) (by decide) x6.out.1 x6.out.2.1 x6.out.2.2 ?_
            intro g2 o2 c2 W3 hA
            obtain ⟨hB3, hbx, hS3⟩ := hfin.out g2 o2 c2 W3 hA
            have hsA := (⟨stay hB3.out s3.out, stay hB3.out g0.out⟩ : (fun V : World => V.cell? ⟨w.heap.size, 3, none⟩ = some (.slice ua.an ua.ln ua.cn) ∧ V.cell? ⟨nb, no + q, none⟩ = some (.string s)) W3)
            have hsS := (⟨stay hS3.out.bel s3.out, stay hS3.out.bel g0.out⟩ : (fun V : World => V.cell? ⟨w.heap.size, 3, none⟩ = some (.slice ua.an ua.ln ua.cn) ∧ V.cell? ⟨nb, no + q, none⟩ = some (.string s)) (W3.setCell ⟨wb, 3, none⟩ (.slice (some ⟨g2, o2, none⟩) (ns.length + 1) c2)))
            have y3 : W3.cell? ⟨wb, 3, none⟩ = some (.slice na ns.length nc) := cell_of hbx.out 3
            have yf : ∀ j, W3.frozen? ⟨wb, j, none⟩ = false := fun j => by simp [World.frozen?, hbx.out]
            clear hA hsrc hfin x0 w3 w3a a3 an0
            refine hK.out _ _ hsA (fun hHeld => ?_)
            clear hK K
            try simp only [Act.put, List.getElem_toArray, List.getElem_cons_zero, List.getElem_cons_succ, List.setIfInBounds_toArray, List.set_cons_zero, List.set_cons_succ]
            refine wpAnyH_take (i := 9) (v := .pointer (some ⟨wb, 3, none⟩)) rfl (by kernel_rfl) (by kernel_rfl) (by kernel_rfl) (fun _ _ _ h => h) (Or.inl ⟨by rfl, (by intro w' hS; obtain ⟨s1, s2⟩ := hS; go_simp)⟩) hHeld ?_
            simp only [Act.put, List.getElem_toArray, List.getElem_cons_zero, List.getElem_cons_succ, List.setIfInBounds_toArray, List.set_cons_zero, List.set_cons_succ]
            refine wpAnyH_ready (rs := [10]) (by kernel_rfl) (by simp) ?_
            refine AllReadyH.cons rfl (fun K hK => ?_) ?_
            · rw [if_pos (by rfl)]
              go_simp
              refine hK.out _ _ hsS (fun hHeld => ?_)
              clear hK K
              try simp only [Act.put, List.getElem_toArray, List.getElem_cons_zero, List.getElem_cons_succ, List.setIfInBounds_toArray, List.set_cons_zero, List.set_cons_succ]
              refine wpAnyH_done (by kernel_rfl) ?_ _
              have hSe := hid_of hS3.out.drew
              generalize W3.setCell ⟨wb, 3, none⟩ (.slice (some ⟨g2, o2, none⟩) (ns.length + 1) c2) = W7 at *
              clear hB3 hbx hsA hsS y3 yf
              go_upto_region 16 with fail
              have e3 : W7.drew.cell? ⟨w.heap.size, 4, none⟩ = some (.slice ua.ai ua.li ua.ci) := stay hSe.out.bel s4.out
              have en0 : W7.drew.cell? ⟨ib, io + q * 5, none⟩ = some (.int .i64 v.k) := stay hSe.out.bel k0.out
              have en1 : W7.drew.cell? ⟨ib, io + q * 5 + 1, none⟩ = some (.int .i64 v.x) := stay hSe.out.bel k1.out
              have en2 : W7.drew.cell? ⟨ib, io + q * 5 + 2, none⟩ = some (.string v.s) := stay hSe.out.bel k2.out
              have en3 : W7.drew.cell? ⟨ib, io + q * 5 + 3, none⟩ = some (.slice v.an v.ln v.cn) := stay hSe.out.bel k3.out
              have en4 : W7.drew.cell? ⟨ib, io + q * 5 + 4, none⟩ = some (.slice v.ai v.li v.ci) := stay hSe.out.bel k4.out
              refine wp_region_held_drew (S := fun V => V.cell? ⟨w.heap.size, 4, none⟩ = some (.slice ua.ai ua.li ua.ci) ∧ V.cell? ⟨ib, io + q * 5, none⟩ = some (.int .i64 v.k) ∧ V.cell? ⟨ib, io + q * 5 + 1, none⟩ = some (.int .i64 v.x) ∧ V.cell? ⟨ib, io + q * 5 + 2, none⟩ = some (.string v.s) ∧ V.cell? ⟨ib, io + q * 5 + 3, none⟩ = some (.slice v.an v.ln v.cn) ∧ V.cell? ⟨ib, io + q * 5 + 4, none⟩ = some (.slice v.ai v.li v.ci)) (by kernel_rfl) ⟨e3, en0, en1, en2, en3, en4⟩ (fun hHeld => ?_)
              generalize W7.drew = We at *
              have w4 : We.cell? ⟨wb, 4, none⟩ = some (.slice ia us.length ic) := cell_of hSe.out.box 4
              have w4a := fun o => cell_alloc' w4 o
              have hS1 := hid_of (hSe.out.alloc (.cells #[.int .i64 v.k, .int .i64 v.x, .string v.s, .slice v.an v.ln v.cn, .slice v.ai v.li v.ci] 25))
              have x0 := hid_of hS1.out.ri
              have hsrc : Hid (Src Tryz.prog 5 23 (.slice (some ⟨We.heap.size, 0, none⟩) 1 1) 1 [.int .i64 v.k, .int .i64 v.x, .string v.s, .slice v.an v.ln v.cn, .slice v.ai v.li v.ci] (We.alloc (.cells #[.int .i64 v.k, .int .i64 v.x, .string v.s, .slice v.an v.ln v.cn, .slice v.ai v.li v.ci] 25))) := Src.of_block Tryz.underlying23 (heap_alloc_new We _) 1 1 rfl (fun u hu => by simp at hu; rcases hu with rfl | rfl | rfl | rfl | rfl <;> rfl)
              have x6 : Hid (us.length + 1 ≤ maxLen ∧ (us.length + 1) * 80 ≤ 140737488355328 ∧ W5.heap.size ≤ (We.alloc (.cells #[.int .i64 v.k, .int .i64 v.x, .string v.s, .slice v.an v.ln v.cn, .slice v.ai v.li v.ci] 25)).heap.size) := by
                have h1 := hnU.out
                have h2 := hS1.out.bel.size
                unfold maxLen
                exact ⟨by omega, by omega, h2⟩
              have hfin : Hid (∀ g3 o3 c3 W8, Appd (We.alloc (.cells #[.int .i64 v.k, .int .i64 v.x, .string v.s, .slice v.an v.ln v.cn, .slice v.ai v.li v.ci] 25)) W5.heap.size 5 ia us.length 1 ic (flatV us ++ [.int .i64 v.k, .int .i64 v.x, .string v.s, .slice v.an v.ln v.cn, .slice v.ai v.li v.ci]) g3 o3 c3 W8 → Hid (Below W5.heap.size W5 W8) ∧ Hid (W8.heap[wb]? = some (.cells #[.int .i64 6, .int .i64 0, .string ⟨#[]⟩, .slice (some ⟨g2, o2, none⟩) (ns ++ [s]).length c2, .slice ia us.length ic] 25 (0, 0))) ∧ Hid (RevSt W5 (W8.setCell ⟨wb, 4, none⟩ (.slice (some ⟨g3, o3, none⟩) (us.length + 1) c3)) wb (some ⟨g2, o2, none⟩) c2 (some ⟨g3, o3, none⟩) c3 (ns ++ [s]) (us ++ [v]))) := fun g3 o3 c3 W8 hA => ⟨(hS1.out.mid2 hA).1, (hS1.out.mid2 hA).2, hS1.out.item rfl hA⟩
              obtain ⟨UI, hUI⟩ : ∃ U, Hid (flatV us = U) := ⟨_, rfl⟩
              rw [hUI.out] at x0 hfin
              clear hS1 hSe hS3
              refine wpAnyH_take (i := 0) (v := .pointer (some ⟨wb, 4, none⟩)) rfl (by kernel_rfl) (by kernel_rfl) (by kernel_rfl) (fun _ _ _ h => h) (Or.inl ⟨by rfl, (by intro w' hS; obtain ⟨s1, s2, s3, s4, s5, s6⟩ := hS; go_simp)⟩) hHeld ?_
              simp only [Act.put, List.getElem_toArray, List.getElem_cons_zero, List.setIfInBounds_toArray, List.set_cons_zero, List.set_cons_succ]
              refine wpAnyH_take (i := 2) (v := .pointer (some ⟨w.heap.size, 4, none⟩)) rfl (by kernel_rfl) (by kernel_rfl) (by kernel_rfl) (fun _ _ _ h => h) (Or.inl ⟨by rfl, (by intro w' hS; obtain ⟨s1, s2, s3, s4, s5, s6⟩ := hS; go_simp)⟩) hHeld ?_
              simp only [Act.put, List.getElem_toArray, List.getElem_cons_zero, List.getElem_cons_succ, List.setIfInBounds_toArray, List.set_cons_zero, List.set_cons_succ]
              refine wpAnyH_take (i := 3) (v := .slice ua.ai ua.li ua.ci) rfl (by kernel_rfl) (by kernel_rfl) (by kernel_rfl) (fun _ _ _ h => h) (Or.inl ⟨by rfl, (by intro w' hS; obtain ⟨s1, s2, s3, s4, s5, s6⟩ := hS; go_simp)⟩) hHeld ?_
              simp only [Act.put, List.getElem_toArray, List.getElem_cons_zero, List.getElem_cons_succ, List.setIfInBounds_toArray, List.set_cons_zero, List.set_cons_succ]
              refine wpAnyH_take (i := 4) (v := .int .i64 q) rfl (by kernel_rfl) (by kernel_rfl) (by kernel_rfl) (fun _ _ _ h => h) (Or.inl ⟨by rfl, (by intro w' hS; obtain ⟨s1, s2, s3, s4, s5, s6⟩ := hS; go_simp)⟩) hHeld ?_
              simp only [Act.put, List.getElem_toArray, List.getElem_cons_zero, List.getElem_cons_succ, List.setIfInBounds_toArray, List.set_cons_zero, List.set_cons_succ]
              refine wpAnyH_take (i := 5) (v := .pointer (some ⟨ib, io + q * 5, none⟩)) rfl (by kernel_rfl) (by kernel_rfl) (by kernel_rfl) (fun _ _ _ h => h) (Or.inl ⟨by rfl, (by intro w' hS; obtain ⟨s1, s2, s3, s4, s5, s6⟩ := hS; rw [hia.out]; go_simp)⟩) hHeld ?_
              simp only [Act.put, List.getElem_toArray, List.getElem_cons_zero, List.getElem_cons_succ, List.setIfInBounds_toArray, List.set_cons_zero, List.set_cons_succ]
              refine wpAnyH_take (i := 6) (v := .agg #[.int .i64 v.k, .int .i64 v.x, .string v.s, .slice v.an v.ln v.cn, .slice v.ai v.li v.ci]) rfl (by kernel_rfl) (by kernel_rfl) (by kernel_rfl) (fun _ _ _ h => h) (Or.inl ⟨by rfl, (by intro w' hS; obtain ⟨s1, s2, s3, s4, s5, s6⟩ := hS; go_simp)⟩) hHeld ?_
              simp only [Act.put, List.getElem_toArray, List.getElem_cons_zero, List.getElem_cons_succ, List.setIfInBounds_toArray, List.set_cons_zero, List.set_cons_succ]
              refine wpAnyH_ready (rs := [1, 7]) (by kernel_rfl) (by simp) ?_
              refine AllReadyH.cons rfl (fun K hK => ?_) ?_
              · rw [if_pos (by rfl)]
                go_simp
                refine hK.out _ _ ⟨e3, en0, en1, en2, en3, en4⟩ (fun hHeld => ?_)
                clear hK K
                try simp only [Act.put, List.getElem_toArray, List.getElem_cons_zero, List.getElem_cons_succ, List.setIfInBounds_toArray, List.set_cons_zero, List.set_cons_succ]
                refine wpAnyH_ready (rs := [7]) (by kernel_rfl) (by simp) ?_
                refine AllReadyH.cons rfl (fun K hK => ?_) ?_
                · rw [if_pos (by rfl)]
                  go_simp
                  refine hK.out _ _ ⟨cell_alloc' e3 _, cell_alloc' en0 _, cell_alloc' en1 _, cell_alloc' en2 _, cell_alloc' en3 _, cell_alloc' en4 _⟩ (fun hHeld => ?_)
                  clear hK K
                  try simp only [Act.put, List.getElem_toArray, List.getElem_cons_zero, List.getElem_cons_succ, List.setIfInBounds_toArray, List.set_cons_zero, List.set_cons_succ]
                  refine wpAnyH_ready (rs := [8]) (by kernel_rfl) (by simp) ?_
                  refine AllReadyH.cons rfl (fun K hK => ?_) ?_
                  · refine step_append_rw _ (by rfl) _ _ 23 (by rfl) 25 rv _ 5 80 Tryz.underlying23 hrv hrv1 hrv2 hrv3 (by rfl) W5.heap.size ia us.length ic UI (by rfl) x0.out.len x0.out.le x0.out.mx x0.out.rd _ (by rfl) 1 [.int .i64 v.k, .int .i64 v.x, .string v.s, .slice v.an v.ln v.cn, .slice v.ai v.li v.ci] hsrc.out (fun _ => x0.out) (by decide) x6.out.1 x6.out.2.1 x6.out.2.2 ?_
                    intro g3 o3 c3 W8 hA
                    obtain ⟨hB3, hbx, hS4⟩ := hfin.out g3 o3 c3 W8 hA
                    have hsA := (⟨stay hB3.out s4.out, stay hB3.out k0.out, stay hB3.out k1.out, stay hB3.out k2.out, stay hB3.out k3.out, stay hB3.out k4.out⟩ : (fun V : World => V.cell? ⟨w.heap.size, 4, none⟩ = some (.slice ua.ai ua.li ua.ci) ∧ V.cell? ⟨ib, io + q * 5, none⟩ = some (.int .i64 v.k) ∧ V.cell? ⟨ib, io + q * 5 + 1, none⟩ = some (.int .i64 v.x) ∧ V.cell? ⟨ib, io + q * 5 + 2, none⟩ = some (.string v.s) ∧ V.cell? ⟨ib, io + q * 5 + 3, none⟩ = some (.slice v.an v.ln v.cn) ∧ V.cell? ⟨ib, io + q * 5 + 4, none⟩ = some (.slice v.ai v.li v.ci)) W8)
                    have hsS := (⟨stay hS4.out.bel s4.out, stay hS4.out.bel k0.out, stay hS4.out.bel k1.out, stay hS4.out.bel k2.out, stay hS4.out.bel k3.out, stay hS4.out.bel k4.out⟩ : (fun V : World => V.cell? ⟨w.heap.size, 4, none⟩ = some (.slice ua.ai ua.li ua.ci) ∧ V.cell? ⟨ib, io + q * 5, none⟩ = some (.int .i64 v.k) ∧ V.cell? ⟨ib, io + q * 5 + 1, none⟩ = some (.int .i64 v.x) ∧ V.cell? ⟨ib, io + q * 5 + 2, none⟩ = some (.string v.s) ∧ V.cell? ⟨ib, io + q * 5 + 3, none⟩ = some (.slice v.an v.ln v.cn) ∧ V.cell? ⟨ib, io + q * 5 + 4, none⟩ = some (.slice v.ai v.li v.ci)) (W8.setCell ⟨wb, 4, none⟩ (.slice (some ⟨g3, o3, none⟩) (us.length + 1) c3)))
                    have y3 : W8.cell? ⟨wb, 4, none⟩ = some (.slice ia us.length ic) := cell_of hbx.out 4
                    have yf : ∀ j, W8.frozen? ⟨wb, j, none⟩ = false := fun j => by simp [World.frozen?, hbx.out]
                    clear hA hsrc hfin x0 w4 w4a e3 en0 en1 en2 en3 en4
                    refine hK.out _ _ hsA (fun hHeld => ?_)
                    clear hK K
                    try simp only [Act.put, List.getElem_toArray, List.getElem_cons_zero, List.getElem_cons_succ, List.setIfInBounds_toArray, List.set_cons_zero, List.set_cons_succ]
                    refine wpAnyH_take (i := 9) (v := .pointer (some ⟨wb, 4, none⟩)) rfl (by kernel_rfl) (by kernel_rfl) (by kernel_rfl) (fun _ _ _ h => h) (Or.inl ⟨by rfl, (by intro w' hS; obtain ⟨s1, s2, s3, s4, s5, s6⟩ := hS; go_simp)⟩) hHeld ?_
                    simp only [Act.put, List.getElem_toArray, List.getElem_cons_zero, List.getElem_cons_succ, List.setIfInBounds_toArray, List.set_cons_zero, List.set_cons_succ]
                    refine wpAnyH_ready (rs := [10]) (by kernel_rfl) (by simp) ?_
                    refine AllReadyH.cons rfl (fun K hK => ?_) ?_
                    · rw [if_pos (by rfl)]
                      go_simp
                      refine hK.out _ _ hsS (fun hHeld => ?_)
                      clear hK K
                      try simp only [Act.put, List.getElem_toArray, List.getElem_cons_zero, List.getElem_cons_succ, List.setIfInBounds_toArray, List.set_cons_zero, List.set_cons_succ]
                      refine wpAnyH_done (by kernel_rfl) ?_ _
                      clear hsA hsS hB3 hbx y3 yf
                      generalize W8.setCell ⟨wb, 4, none⟩ (.slice (some ⟨g3, o3, none⟩) (us.length + 1) c3) = W9 at *
                      go_wp2_with fail
                      go_roundw
                      case rel => exact ⟨m + 1, _, _, _, _, _, _, by rw [← hq.out]; go_num, by omega, hS4, hns2, hus2⟩
                      case measure => have := hq.out; simp only [intOf]; omega
                    exact AllReadyH.nil
                  exact AllReadyH.nil
                exact AllReadyH.nil
              refine AllReadyH.cons rfl (fun K hK => ?_) ?_
              · rw [if_pos (by rfl)]
                go_simp
                refine hK.out _ _ ⟨cell_alloc' e3 _, cell_alloc' en0 _, cell_alloc' en1 _, cell_alloc' en2 _, cell_alloc' en3 _, cell_alloc' en4 _⟩ (fun hHeld => ?_)
                clear hK K
                try simp only [Act.put, List.getElem_toArray, List.getElem_cons_zero, List.getElem_cons_succ, List.setIfInBounds_toArray, List.set_cons_zero, List.set_cons_succ]
                refine wpAnyH_ready (rs := [1]) (by kernel_rfl) (by simp) ?_
                refine AllReadyH.cons rfl (fun K hK => ?_) ?_
                · rw [if_pos (by rfl)]
                  go_simp
                  refine hK.out _ _ ⟨cell_alloc' e3 _, cell_alloc' en0 _, cell_alloc' en1 _, cell_alloc' en2 _, cell_alloc' en3 _, cell_alloc' en4 _⟩ (fun hHeld => ?_)
                  clear hK K
                  try simp only [Act.put, List.getElem_toArray, List.getElem_cons_zero, List.getElem_cons_succ, List.setIfInBounds_toArray, List.set_cons_zero, List.set_cons_succ]
                  refine wpAnyH_ready (rs := [8]) (by kernel_rfl) (by simp) ?_
                  refine AllReadyH.cons rfl (fun K hK => ?_) ?_
                  · refine step_append_rw _ (by rfl) _ _ 23 (by rfl) 25 rv _ 5 80 Tryz.underlying23 hrv hrv1 hrv2 hrv3 (by rfl) W5.heap.size ia us.length ic UI (by rfl) x0.out.len x0.out.le x0.out.mx x0.out.rd _ (by rfl) 1 [.int .i64 v.k, .int .i64 v.x, .string v.s, .slice v.an v.ln v.cn, .slice v.ai v.li v.ci] hsrc.out (fun _ => x0.out) (by decide) x6.out.1 x6.out.2.1 x6.out.2.2 ?_
                    intro g3 o3 c3 W8 hA
                    obtain ⟨hB3, hbx, hS4⟩ := hfin.out g3 o3 c3 W8 hA
                    have hsA := (⟨stay hB3.out s4.out, stay hB3.out k0.out, stay hB3.out k1.out, stay hB3.out k2.out, stay hB3.out k3.out, stay hB3.out k4.out⟩ : (fun V : World => V.cell? ⟨w.heap.size, 4, none⟩ = some (.slice ua.ai ua.li ua.ci) ∧ V.cell? ⟨ib, io + q * 5, none⟩ = some (.int .i64 v.k) ∧ V.cell? ⟨ib, io + q * 5 + 1, none⟩ = some (.int .i64 v.x) ∧ V.cell? ⟨ib, io + q * 5 + 2, none⟩ = some (.string v.s) ∧ V.cell? ⟨ib, io + q * 5 + 3, none⟩ = some (.slice v.an v.ln v.cn) ∧ V.cell? ⟨ib, io + q * 5 + 4, none⟩ = some (.slice v.ai v.li v.ci)) W8)
                    have hsS := (⟨stay hS4.out.bel s4.out, stay hS4.out.bel k0.out, stay hS4.out.bel k1.out, stay hS4.out.bel k2.out, stay hS4.out.bel k3.out, stay hS4.out.bel k4.out⟩ : (fun V : World => V.cell? ⟨w.heap.size, 4, none⟩ = some (.slice ua.ai ua.li ua.ci) ∧ V.cell? ⟨ib, io + q * 5, none⟩ = some (.int .i64 v.k) ∧ V.cell? ⟨ib, io + q * 5 + 1, none⟩ = some (.int .i64 v.x) ∧ V.cell? ⟨ib, io + q * 5 + 2, none⟩ = some (.string v.s) ∧ V.cell? ⟨ib, io + q * 5 + 3, none⟩ = some (.slice v.an v.ln v.cn) ∧ V.cell? ⟨ib, io + q * 5 + 4, none⟩ = some (.slice v.ai v.li v.ci)) (W8.setCell ⟨wb, 4, none⟩ (.slice (some ⟨g3, o3, none⟩) (us.length + 1) c3)))
                    have y3 : W8.cell? ⟨wb, 4, none⟩ = some (.slice ia us.length ic) := cell_of hbx.out 4
                    have yf : ∀ j, W8.frozen? ⟨wb, j, none⟩ = false := fun j => by simp [World.frozen?, hbx.out]
                    clear hA hsrc hfin x0 w4 w4a e3 en0 en1 en2 en3 en4
                    refine hK.out _ _ hsA (fun hHeld => ?_)
                    clear hK K
                    try simp only [Act.put, List.getElem_toArray, List.getElem_cons_zero, List.getElem_cons_succ, List.setIfInBounds_toArray, List.set_cons_zero, List.set_cons_succ]
                    refine wpAnyH_take (i := 9) (v := .pointer (some ⟨wb, 4, none⟩)) rfl (by kernel_rfl) (by kernel_rfl) (by kernel_rfl) (fun _ _ _ h => h) (Or.inl ⟨by rfl, (by intro w' hS; obtain ⟨s1, s2, s3, s4, s5, s6⟩ := hS; go_simp)⟩) hHeld ?_
                    simp only [Act.put, List.getElem_toArray, List.getElem_cons_zero, List.getElem_cons_succ, List.setIfInBounds_toArray, List.set_cons_zero, List.set_cons_succ]
                    refine wpAnyH_ready (rs := [10]) (by kernel_rfl) (by simp) ?_
                    refine AllReadyH.cons rfl (fun K hK => ?_) ?_
                    · rw [if_pos (by rfl)]
                      go_simp
                      refine hK.out _ _ hsS (fun hHeld => ?_)
                      clear hK K
                      try simp only [Act.put, List.getElem_toArray, List.getElem_cons_zero, List.getElem_cons_succ, List.setIfInBounds_toArray, List.set_cons_zero, List.set_cons_succ]
                      refine wpAnyH_done (by kernel_rfl) ?_ _
                      clear hsA hsS hB3 hbx y3 yf
                      generalize W8.setCell ⟨wb, 4, none⟩ (.slice (some ⟨g3, o3, none⟩) (us.length + 1) c3) = W9 at *
                      go_wp2_with fail
                      go_roundw
                      case rel => exact ⟨m + 1, _, _, _, _, _, _, by rw [← hq.out]; go_num, by omega, hS4, hns2, hus2⟩
                      case measure => have := hq.out; simp only [intOf]; omega
                    exact AllReadyH.nil
                  exact AllReadyH.nil
                exact AllReadyH.nil
              exact AllReadyH.nil
            exact AllReadyH.nil
          exact AllReadyH.nil
        exact AllReadyH.nil
      exact AllReadyH.nil
    · skip
      have hm2 : m = ua.li := by omega
      have hlt0 : ¬ (0 : Int) ≤ (ua.li : Int) - 1 - (m : Int) := by omega
      have hVw := hid_of (hS.out.rep (ts := ta.items.reverse) (by rw [hus.out, hm2, List.take_of_length_le (by have := hvs.out.1; have := him.out; simp; omega)]; exact (vals_rev hvs.out).keep (hB5.out.trans (hS.out.bel.mono hB5.out.size))))
      have hnsR : Hid (ns = ta.names.reverse) := by rw [Hid, hns.out, hm2, List.take_of_length_le (by have := hnm.out; have := hnl.out; simp; omega)]
      have n4 := hid_of hS.out.box
      have hB6 := hid_of (hB5.out.trans (hS.out.bel.mono hB5.out.size))
      replace n1 := hid_of (block_keep n1.out hS.out.bel)
      replace n2 := hid_of (block_keep n2.out hS.out.bel)
      replace n3 := hid_of (block_keep n3.out hS.out.bel)
      obtain ⟨nl, hnl2⟩ : ∃ k, Hid (ns.length = k) := ⟨_, rfl⟩
      obtain ⟨il, hil2⟩ : ∃ k, Hid (us.length = k) := ⟨_, rfl⟩
      rw [hnl2.out, hil2.out] at hVw n4
      rw [hnsR.out] at hVw
      replace hVw : Hid (VRep wr (revT ta) (⟨6, 0, ⟨#[]⟩, na, nl, nc, ia, il, ic⟩ : V5).cs) := hVw
      clear hS hns hus hm hm2 hlt s3 s4 hrn hvc hvs hB5 hBw hnl hnm him hlib hil hnsR hnl2 hil2
      obtain ⟨p0, p1, p2, p3, p4, -⟩ := row_cells n4.out
      obtain ⟨r0, r1, r2, r3, r4, -⟩ := row_cells n3.out
      have hkp := hid_of (keeps_good (hIt.out.later hB6.out) hVw.out (small_rev hSa.out) (VRep.keep hB6.out _ _ hVv.out) hSv.out (hE.out.keep hB6.out) (parse_revT ta hza.out) ((keeps_revT ta tv hza.out).trans hka.out))
      unfold V5.v at hkp
      go_wp2_with fail
      refine hkp.out.mono ?_
      rintro e W7 ⟨rfl, hb⟩
      have hB7 := hid_of (hB6.out.trans (hb.mono hB6.out.size))
      replace n1 := hid_of (block_keep n1.out hb)
      replace n2 := hid_of (block_keep n2.out hb)
      replace n3 := hid_of (block_keep n3.out hb)
      clear p0 p1 p2 p3 p4 r0 r1 r2 r3 r4
      clear hkp hb hB6 hVw n4
      have hkk : (ka != ka) = false := by simp
      go_upto_region 20 with fail
      have hbad : parseZ (allT ta tb) = 0 → parseZ (notT ta) = 0 ∧ parseZ (anyT ta tb) = 0 := parse_deep ta tb
      replace hbad := hid_of hbad
      obtain ⟨zd, hzd⟩ : ∃ z, Hid (parseZ (allT ta tb) = z) := ⟨_, rfl⟩
      have hgd : zd = 0 ∨ zd ≠ 0 := Classical.em _
      rcases hgd with hgd | hgd
      · subst hgd
        obtain ⟨hzn, hzy⟩ := hbad.out hzd.out
        replace hzn := hid_of hzn
        replace hzy := hid_of hzy
        clear hbad
        have hDw := hid_of (below_drew (Below.refl W7.heap.size W7))
        have hBd := hid_of (hB7.out.trans (hDw.out.mono hB7.out.size))
        replace n1 := hid_of (block_keep n1.out hDw.out)
        replace n2 := hid_of (block_keep n2.out hDw.out)
        replace n3 := hid_of (block_keep n3.out hDw.out)
        obtain ⟨p0, p1, p2, p3, p4, -⟩ := row_cells n1.out
        obtain ⟨r0, r1, r2, r3, r4, -⟩ := row_cells n3.out
        clear hDw hB7
        have hob := hid_of (object_v wNot ta ua W7.drew (VRep.keep hBd.out _ _ hVa.out))
        unfold V5.v at hob
        go_region_held3 (fun V => V.cell? ⟨w.heap.size, 0, none⟩ = some (.int .i64 ua.k) ∧ V.cell? ⟨w.heap.size, 1, none⟩ = some (.int .i64 ua.x) ∧ V.cell? ⟨w.heap.size, 2, none⟩ = some (.string ua.s) ∧ V.cell? ⟨w.heap.size, 3, none⟩ = some (.slice ua.an ua.ln ua.cn) ∧ V.cell? ⟨w.heap.size, 4, none⟩ = some (.slice ua.ai ua.li ua.ci) ∧ V.cell? ⟨w.heap.size + 1 + 1, 0, none⟩ = some (.int .i64 uv.k) ∧ V.cell? ⟨w.heap.size + 1 + 1, 1, none⟩ = some (.int .i64 uv.x) ∧ V.cell? ⟨w.heap.size + 1 + 1, 2, none⟩ = some (.string uv.s) ∧ V.cell? ⟨w.heap.size + 1 + 1, 3, none⟩ = some (.slice uv.an uv.ln uv.cn) ∧ V.cell? ⟨w.heap.size + 1 + 1, 4, none⟩ = some (.slice uv.ai uv.li uv.ci)) (go_keep) (first
          | (go_at_call 5; refine hob.out.mono ?_; rintro e Wo ⟨hbo, bn, bi, rfl, hVo⟩; have gp0 := stay hbo p0; have gp1 := stay hbo p1; have gp2 := stay hbo p2; have gp3 := stay hbo p3; have gp4 := stay hbo p4; have gr0 := stay hbo r0; have gr1 := stay hbo r1; have gr2 := stay hbo r2; have gr3 := stay hbo r3; have gr4 := stay hbo r4; have hBb := hid_of (hBd.out.trans (hbo.mono hBd.out.size)); have k1 := hid_of (block_keep n1.out hbo); have k2 := hid_of (block_keep n2.out hbo); have k3 := hid_of (block_keep n3.out hbo); have hkp := hid_of (keeps_good (hIt.out.later hBb.out) hVo (small_obj (by decide) hSa.out) (VRep.keep hBb.out _ _ hVv.out) hSv.out (hE.out.keep hBb.out) hzn.out ((keeps_notT ta tv).trans (congrArg not hka.out))); unfold V5.v at hkp; replace hVo := hid_of hVo; clear hbo hob p0 p1 p2 p3 p4 r0 r1 r2 r3 r4)
          | (go_at_call 9; refine hkp.out.mono ?_; rintro e W8 ⟨rfl, hbk⟩; have hgp0 := stay hbk gp0; have hgp1 := stay hbk gp1; have hgp2 := stay hbk gp2; have hgp3 := stay hbk gp3; have hgp4 := stay hbk gp4; have hgr0 := stay hbk gr0; have hgr1 := stay hbk gr1; have hgr2 := stay hbk gr2; have hgr3 := stay hbk gr3; have hgr4 := stay hbk gr4; have hB8 := hid_of (hBb.out.trans (hbk.mono hBb.out.size)); have j1 := hid_of (block_keep k1.out hbk); have j2 := hid_of (block_keep k2.out hbk); have j3 := hid_of (block_keep k3.out hbk); clear hbk hkp hVo hBb k1 k2 k3 gp0 gp1 gp2 gp3 gp4 gr0 gr1 gr2 gr3 gr4))
        clear hgp0 hgp1 hgp2 hgp3 hgp4 hgr0 hgr1 hgr2 hgr3 hgr4 n1 n2 n3 hBd
        have n1 := j1
        have n2 := j2
        have n3 := j3
        clear j1 j2 j3
        go_upto_region 21 with fail
        have hDw := hid_of (below_drew (Below.refl W8.heap.size W8))
        have hBd := hid_of (hB8.out.trans (hDw.out.mono hB8.out.size))
        replace n1 := hid_of (block_keep n1.out hDw.out)
        replace n2 := hid_of (block_keep n2.out hDw.out)
        replace n3 := hid_of (block_keep n3.out hDw.out)
        obtain ⟨p0, p1, p2, p3, p4, -⟩ := row_cells n1.out
        obtain ⟨q0, q1, q2, q3, q4, -⟩ := row_cells n2.out
        obtain ⟨r0, r1, r2, r3, r4, -⟩ := row_cells n3.out
        clear hDw hB8
        have hOw : Hid (Below W8.drew.heap.size W8.drew ((W8.alloc (.cells #[.int .i64 ua.k, .int .i64 ua.x, .string ua.s, .slice ua.an ua.ln ua.cn, .slice ua.ai ua.li ua.ci, .int .i64 ub.k, .int .i64 ub.x, .string ub.s, .slice ub.an ub.ln ub.cn, .slice ub.ai ub.li ub.ci] 25)).drew)) := below_drew_alloc W8 _
        have hBo := hid_of (hBd.out.trans (hOw.out.mono hBd.out.size))
        have hrow : Hid (RowT ((W8.alloc (.cells #[.int .i64 ua.k, .int .i64 ua.x, .string ua.s, .slice ua.an ua.ln ua.cn, .slice ua.ai ua.li ua.ci, .int .i64 ub.k, .int .i64 ub.x, .string ub.s, .slice ub.an ub.ln ub.cn, .slice ub.ai ub.li ub.ci] 25)).drew) (some ⟨W8.heap.size, 0, none⟩) [ta, tb]) := row_two (VRep.keep hBo.out _ _ hVa.out) (VRep.keep hBo.out _ _ hVb.out) (heap_alloc_new W8 (.cells #[.int .i64 ua.k, .int .i64 ua.x, .string ua.s, .slice ua.an ua.ln ua.cn, .slice ua.ai ua.li ua.ci, .int .i64 ub.k, .int .i64 ub.x, .string ub.s, .slice ub.an ub.ln ub.cn, .slice ub.ai ub.li ub.ci] 25))
        have hls := fun W => hid_of (list_any W8.heap.size 2 2 W)
        unfold V5.v at hls
        have po0 := stay hOw.out p0
        have po1 := stay hOw.out p1
        have po2 := stay hOw.out p2
        have po3 := stay hOw.out p3
        have po4 := stay hOw.out p4
        have qo0 := stay hOw.out q0
        have qo1 := stay hOw.out q1
        have qo2 := stay hOw.out q2
        have qo3 := stay hOw.out q3
        have qo4 := stay hOw.out q4
        have ro0 := stay hOw.out r0
        have ro1 := stay hOw.out r1
        have ro2 := stay hOw.out r2
        have ro3 := stay hOw.out r3
        have ro4 := stay hOw.out r4
        go_region_held3 (fun V => V.cell? ⟨w.heap.size, 0, none⟩ = some (.int .i64 ua.k) ∧ V.cell? ⟨w.heap.size, 1, none⟩ = some (.int .i64 ua.x) ∧ V.cell? ⟨w.heap.size, 2, none⟩ = some (.string ua.s) ∧ V.cell? ⟨w.heap.size, 3, none⟩ = some (.slice ua.an ua.ln ua.cn) ∧ V.cell? ⟨w.heap.size, 4, none⟩ = some (.slice ua.ai ua.li ua.ci) ∧ V.cell? ⟨w.heap.size + 1, 0, none⟩ = some (.int .i64 ub.k) ∧ V.cell? ⟨w.heap.size + 1, 1, none⟩ = some (.int .i64 ub.x) ∧ V.cell? ⟨w.heap.size + 1, 2, none⟩ = some (.string ub.s) ∧ V.cell? ⟨w.heap.size + 1, 3, none⟩ = some (.slice ub.an ub.ln ub.cn) ∧ V.cell? ⟨w.heap.size + 1, 4, none⟩ = some (.slice ub.ai ub.li ub.ci) ∧ V.cell? ⟨w.heap.size + 1 + 1, 0, none⟩ = some (.int .i64 uv.k) ∧ V.cell? ⟨w.heap.size + 1 + 1, 1, none⟩ = some (.int .i64 uv.x) ∧ V.cell? ⟨w.heap.size + 1 + 1, 2, none⟩ = some (.string uv.s) ∧ V.cell? ⟨w.heap.size + 1 + 1, 3, none⟩ = some (.slice uv.an uv.ln uv.cn) ∧ V.cell? ⟨w.heap.size + 1 + 1, 4, none⟩ = some (.slice uv.ai uv.li uv.ci)) (go_keep) (first
          | (go_at_call 10; refine (hls _).out.mono ?_; rintro e Wl ⟨rfl, hbl⟩; have dp0 := stay hbl po0; have dp1 := stay hbl po1; have dp2 := stay hbl po2; have dp3 := stay hbl po3; have dp4 := stay hbl po4; have dq0 := stay hbl qo0; have dq1 := stay hbl qo1; have dq2 := stay hbl qo2; have dq3 := stay hbl qo3; have dq4 := stay hbl qo4; have dr0 := stay hbl ro0; have dr1 := stay hbl ro1; have dr2 := stay hbl ro2; have dr3 := stay hbl ro3; have dr4 := stay hbl ro4; have hBl := hid_of (hBo.out.trans (hbl.mono hBo.out.size)); have hVl := hid_of (vrep_list (c := 2) (hrow.out.keep hbl) (by simp)); have m1 := hid_of (block_keep (block_keep n1.out hOw.out) hbl); have m2 := hid_of (block_keep (block_keep n2.out hOw.out) hbl); have m3 := hid_of (block_keep (block_keep n3.out hOw.out) hbl); have hob := hid_of (object_v wAllOf (listT [ta, tb]) (listU W8.heap.size 2 2) Wl hVl.out); unfold V5.v listU at hob; clear hbl hrow hOw hBo hls n1 n2 n3 po0 p0 po1 p1 po2 p2 po3 p3 po4 p4 qo0 q0 qo1 q1 qo2 q2 qo3 q3 qo4 q4 ro0 r0 ro1 r1 ro2 r2 ro3 r3 ro4 r4)
          | (go_at_call 5; refine hob.out.mono ?_; rintro e Wo ⟨hbo, bn, bi, rfl, hVo⟩; have gdp0 := stay hbo dp0; have gdp1 := stay hbo dp1; have gdp2 := stay hbo dp2; have gdp3 := stay hbo dp3; have gdp4 := stay hbo dp4; have gdq0 := stay hbo dq0; have gdq1 := stay hbo dq1; have gdq2 := stay hbo dq2; have gdq3 := stay hbo dq3; have gdq4 := stay hbo dq4; have gdr0 := stay hbo dr0; have gdr1 := stay hbo dr1; have gdr2 := stay hbo dr2; have gdr3 := stay hbo dr3; have gdr4 := stay hbo dr4; have hBb := hid_of (hBl.out.trans (hbo.mono hBl.out.size)); have k1 := hid_of (block_keep m1.out hbo); have k2 := hid_of (block_keep m2.out hbo); have k3 := hid_of (block_keep m3.out hbo); have hkp := hid_of (keeps_good (hIt.out.later hBb.out) hVo (small_obj (by decide) (small_list hSa.out hSb.out)) (VRep.keep hBb.out _ _ hVv.out) hSv.out (hE.out.keep hBb.out) hzd.out ((keeps_allT ta tb tv).trans (by rw [hka.out, hkb.out]))); unfold V5.v at hkp; replace hVo := hid_of hVo; clear hbo hob dp0 dp1 dp2 dp3 dp4 dq0 dq1 dq2 dq3 dq4 dr0 dr1 dr2 dr3 dr4)
          | (go_at_call 9; refine hkp.out.mono ?_; rintro e W9 ⟨rfl, hbk⟩; have hgdp0 := stay hbk gdp0; have hgdp1 := stay hbk gdp1; have hgdp2 := stay hbk gdp2; have hgdp3 := stay hbk gdp3; have hgdp4 := stay hbk gdp4; have hgdq0 := stay hbk gdq0; have hgdq1 := stay hbk gdq1; have hgdq2 := stay hbk gdq2; have hgdq3 := stay hbk gdq3; have hgdq4 := stay hbk gdq4; have hgdr0 := stay hbk gdr0; have hgdr1 := stay hbk gdr1; have hgdr2 := stay hbk gdr2; have hgdr3 := stay hbk gdr3; have hgdr4 := stay hbk gdr4; have hB9 := hid_of (hBb.out.trans (hbk.mono hBb.out.size)); have j1 := hid_of (block_keep k1.out hbk); have j2 := hid_of (block_keep k2.out hbk); have j3 := hid_of (block_keep k3.out hbk); clear hbk hkp hVo hBb k1 k2 k3 gdp0 gdp1 gdp2 gdp3 gdp4 gdq0 gdq1 gdq2 gdq3 gdq4 gdr0 gdr1 gdr2 gdr3 gdr4))
        clear hgdp0 hgdp1 hgdp2 hgdp3 hgdp4 hgdq0 hgdq1 hgdq2 hgdq3 hgdq4 hgdr0 hgdr1 hgdr2 hgdr3 hgdr4 hVl hBl m1 m2 m3 hBd
        have n1 := j1
        have n2 := j2
        have n3 := j3
        clear j1 j2 j3
        go_upto_region 22 with fail
        have hDw := hid_of (below_drew (Below.refl W9.heap.size W9))
        have hBd := hid_of (hB9.out.trans (hDw.out.mono hB9.out.size))
        replace n1 := hid_of (block_keep n1.out hDw.out)
        replace n2 := hid_of (block_keep n2.out hDw.out)
        replace n3 := hid_of (block_keep n3.out hDw.out)
        obtain ⟨p0, p1, p2, p3, p4, -⟩ := row_cells n1.out
        obtain ⟨q0, q1, q2, q3, q4, -⟩ := row_cells n2.out
        obtain ⟨r0, r1, r2, r3, r4, -⟩ := row_cells n3.out
        clear hDw hB9
        have hOw : Hid (Below W9.drew.heap.size W9.drew ((W9.alloc (.cells #[.int .i64 ua.k, .int .i64 ua.x, .string ua.s, .slice ua.an ua.ln ua.cn, .slice ua.ai ua.li ua.ci, .int .i64 ub.k, .int .i64 ub.x, .string ub.s, .slice ub.an ub.ln ub.cn, .slice ub.ai ub.li ub.ci] 25)).drew)) := below_drew_alloc W9 _
        have hBo := hid_of (hBd.out.trans (hOw.out.mono hBd.out.size))
        have hrow : Hid (RowT ((W9.alloc (.cells #[.int .i64 ua.k, .int .i64 ua.x, .string ua.s, .slice ua.an ua.ln ua.cn, .slice ua.ai ua.li ua.ci, .int .i64 ub.k, .int .i64 ub.x, .string ub.s, .slice ub.an ub.ln ub.cn, .slice ub.ai ub.li ub.ci] 25)).drew) (some ⟨W9.heap.size, 0, none⟩) [ta, tb]) := row_two (VRep.keep hBo.out _ _ hVa.out) (VRep.keep hBo.out _ _ hVb.out) (heap_alloc_new W9 (.cells #[.int .i64 ua.k, .int .i64 ua.x, .string ua.s, .slice ua.an ua.ln ua.cn, .slice ua.ai ua.li ua.ci, .int .i64 ub.k, .int .i64 ub.x, .string ub.s, .slice ub.an ub.ln ub.cn, .slice ub.ai ub.li ub.ci] 25))
        have hls := fun W => hid_of (list_any W9.heap.size 2 2 W)
        unfold V5.v at hls
        have po0 := stay hOw.out p0
        have po1 := stay hOw.out p1
        have po2 := stay hOw.out p2
        have po3 := stay hOw.out p3
        have po4 := stay hOw.out p4
        have qo0 := stay hOw.out q0
        have qo1 := stay hOw.out q1
        have qo2 := stay hOw.out q2
        have qo3 := stay hOw.out q3
        have qo4 := stay hOw.out q4
        have ro0 := stay hOw.out r0
        have ro1 := stay hOw.out r1
        have ro2 := stay hOw.out r2
        have ro3 := stay hOw.out r3
        have ro4 := stay hOw.out r4
        go_region_held3 (fun V => V.cell? ⟨w.heap.size, 0, none⟩ = some (.int .i64 ua.k) ∧ V.cell? ⟨w.heap.size, 1, none⟩ = some (.int .i64 ua.x) ∧ V.cell? ⟨w.heap.size, 2, none⟩ = some (.string ua.s) ∧ V.cell? ⟨w.heap.size, 3, none⟩ = some (.slice ua.an ua.ln ua.cn) ∧ V.cell? ⟨w.heap.size, 4, none⟩ = some (.slice ua.ai ua.li ua.ci) ∧ V.cell? ⟨w.heap.size + 1, 0, none⟩ = some (.int .i64 ub.k) ∧ V.cell? ⟨w.heap.size + 1, 1, none⟩ = some (.int .i64 ub.x) ∧ V.cell? ⟨w.heap.size + 1, 2, none⟩ = some (.string ub.s) ∧ V.cell? ⟨w.heap.size + 1, 3, none⟩ = some (.slice ub.an ub.ln ub.cn) ∧ V.cell? ⟨w.heap.size + 1, 4, none⟩ = some (.slice ub.ai ub.li ub.ci) ∧ V.cell? ⟨w.heap.size + 1 + 1, 0, none⟩ = some (.int .i64 uv.k) ∧ V.cell? ⟨w.heap.size + 1 + 1, 1, none⟩ = some (.int .i64 uv.x) ∧ V.cell? ⟨w.heap.size + 1 + 1, 2, none⟩ = some (.string uv.s) ∧ V.cell? ⟨w.heap.size + 1 + 1, 3, none⟩ = some (.slice uv.an uv.ln uv.cn) ∧ V.cell? ⟨w.heap.size + 1 + 1, 4, none⟩ = some (.slice uv.ai uv.li uv.ci)) (go_keep) (first
          | (go_at_call 10; refine (hls _).out.mono ?_; rintro e Wl ⟨rfl, hbl⟩; have dp0 := stay hbl po0; have dp1 := stay hbl po1; have dp2 := stay hbl po2; have dp3 := stay hbl po3; have dp4 := stay hbl po4; have dq0 := stay hbl qo0; have dq1 := stay hbl qo1; have dq2 := stay hbl qo2; have dq3 := stay hbl qo3; have dq4 := stay hbl qo4; have dr0 := stay hbl ro0; have dr1 := stay hbl ro1; have dr2 := stay hbl ro2; have dr3 := stay hbl ro3; have dr4 := stay hbl ro4; have hBl := hid_of (hBo.out.trans (hbl.mono hBo.out.size)); have hVl := hid_of (vrep_list (c := 2) (hrow.out.keep hbl) (by simp)); have m1 := hid_of (block_keep (block_keep n1.out hOw.out) hbl); have m2 := hid_of (block_keep (block_keep n2.out hOw.out) hbl); have m3 := hid_of (block_keep (block_keep n3.out hOw.out) hbl); have hob := hid_of (object_v wAnyOf (listT [ta, tb]) (listU W9.heap.size 2 2) Wl hVl.out); unfold V5.v listU at hob; clear hbl hrow hOw hBo hls n1 n2 n3 po0 p0 po1 p1 po2 p2 po3 p3 po4 p4 qo0 q0 qo1 q1 qo2 q2 qo3 q3 qo4 q4 ro0 r0 ro1 r1 ro2 r2 ro3 r3 ro4 r4)
          | (go_at_call 5; refine hob.out.mono ?_; rintro e Wo ⟨hbo, bn, bi, rfl, hVo⟩; have gdp0 := stay hbo dp0; have gdp1 := stay hbo dp1; have gdp2 := stay hbo dp2; have gdp3 := stay hbo dp3; have gdp4 := stay hbo dp4; have gdq0 := stay hbo dq0; have gdq1 := stay hbo dq1; have gdq2 := stay hbo dq2; have gdq3 := stay hbo dq3; have gdq4 := stay hbo dq4; have gdr0 := stay hbo dr0; have gdr1 := stay hbo dr1; have gdr2 := stay hbo dr2; have gdr3 := stay hbo dr3; have gdr4 := stay hbo dr4; have hBb := hid_of (hBl.out.trans (hbo.mono hBl.out.size)); have k1 := hid_of (block_keep m1.out hbo); have k2 := hid_of (block_keep m2.out hbo); have k3 := hid_of (block_keep m3.out hbo); have hkp := hid_of (keeps_good (hIt.out.later hBb.out) hVo (small_obj (by decide) (small_list hSa.out hSb.out)) (VRep.keep hBb.out _ _ hVv.out) hSv.out (hE.out.keep hBb.out) hzy.out ((keeps_anyT ta tb tv).trans (by rw [hka.out, hkb.out]))); unfold V5.v at hkp; replace hVo := hid_of hVo; clear hbo hob dp0 dp1 dp2 dp3 dp4 dq0 dq1 dq2 dq3 dq4 dr0 dr1 dr2 dr3 dr4)
          | (go_at_call 9; refine hkp.out.mono ?_; rintro e W10 ⟨rfl, hbk⟩; have hgdp0 := stay hbk gdp0; have hgdp1 := stay hbk gdp1; have hgdp2 := stay hbk gdp2; have hgdp3 := stay hbk gdp3; have hgdp4 := stay hbk gdp4; have hgdq0 := stay hbk gdq0; have hgdq1 := stay hbk gdq1; have hgdq2 := stay hbk gdq2; have hgdq3 := stay hbk gdq3; have hgdq4 := stay hbk gdq4; have hgdr0 := stay hbk gdr0; have hgdr1 := stay hbk gdr1; have hgdr2 := stay hbk gdr2; have hgdr3 := stay hbk gdr3; have hgdr4 := stay hbk gdr4; have hB10 := hid_of (hBb.out.trans (hbk.mono hBb.out.size)); have j1 := hid_of (block_keep k1.out hbk); have j2 := hid_of (block_keep k2.out hbk); have j3 := hid_of (block_keep k3.out hbk); clear hbk hkp hVo hBb k1 k2 k3 gdp0 gdp1 gdp2 gdp3 gdp4 gdq0 gdq1 gdq2 gdq3 gdq4 gdr0 gdr1 gdr2 gdr3 gdr4))
        clear hgdp0 hgdp1 hgdp2 hgdp3 hgdp4 hgdq0 hgdq1 hgdq2 hgdq3 hgdq4 hgdr0 hgdr1 hgdr2 hgdr3 hgdr4 hVl hBl m1 m2 m3 hBd
        have n1 := j1
        have n2 := j2
        have n3 := j3
        clear j1 j2 j3
        clear hzn hzy hkk
        obtain ⟨p0, p1, p2, p3, p4, -⟩ := row_cells n1.out
        obtain ⟨q0, q1, q2, q3, q4, -⟩ := row_cells n2.out
        have hOw := hid_of ((Below.refl W10.heap.size W10).alloc (Nat.le_refl _) (.cells #[.int .i64 ua.k, .int .i64 ua.x, .string ua.s, .slice ua.an ua.ln ua.cn, .slice ua.ai ua.li ua.ci, .int .i64 ub.k, .int .i64 ub.x, .string ub.s, .slice ub.an ub.ln ub.cn, .slice ub.ai ub.li ub.ci] 25))
        have hBo := hid_of (hB10.out.trans (hOw.out.mono hB10.out.size))
        have hrow := hid_of (row_two (VRep.keep hBo.out _ _ hVa.out) (VRep.keep hBo.out _ _ hVb.out) (heap_alloc_new W10 (.cells #[.int .i64 ua.k, .int .i64 ua.x, .string ua.s, .slice ua.an ua.ln ua.cn, .slice ua.ai ua.li ua.ci, .int .i64 ub.k, .int .i64 ub.x, .string ub.s, .slice ub.an ub.ln ub.cn, .slice ub.ai ub.li ub.ci] 25)))
        replace n1 := hid_of (block_keep n1.out hOw.out)
        replace n2 := hid_of (block_keep n2.out hOw.out)
        replace n3 := hid_of (block_keep n3.out hOw.out)
        have hls := fun W => hid_of (list_any W10.heap.size 2 2 W)
        unfold V5.v at hls
        clear hB10 hOw
        go_wp2_with fail
        refine (hls _).out.mono ?_
        rintro e Wl ⟨rfl, hb⟩
        have hBl := hid_of (hBo.out.trans (hb.mono hBo.out.size))
        have hVl := hid_of (vrep_list (c := 2) (hrow.out.keep hb) (by simp))
        replace n1 := hid_of (block_keep n1.out hb)
        replace n2 := hid_of (block_keep n2.out hb)
        replace n3 := hid_of (block_keep n3.out hb)
        clear p0 p1 p2 p3 p4 q0 q1 q2 q3 q4
        have hob := hid_of (object_v wAllOf (listT [ta, tb]) (listU W10.heap.size 2 2) Wl hVl.out)
        unfold V5.v listU at hob
        clear hb hrow hBo hls
        go_wp2_with fail
        refine hob.out.mono ?_
        rintro e Wo ⟨hb, bn2, bi2, rfl, hVo⟩
        have hBb := hid_of (hBl.out.trans (hb.mono hBl.out.size))
        replace n1 := hid_of (block_keep n1.out hb)
        replace n2 := hid_of (block_keep n2.out hb)
        replace n3 := hid_of (block_keep n3.out hb)
        have hrd := hid_of (read_any (allT ta tb) (objU bn2 bi2) Wo (hid_of hVo) (hid_of (small_obj (by decide) (small_list hSa.out hSb.out))) (hid_of (range_obj (range_list hRa.out hRb.out))))
        rw [hzd.out] at hrd
        unfold V5.v objU at hrd
        clear hb hob hBl hVl hVo
        unfold objU
        go_wp2_with fail
        refine hrd.out.mono ?_
        rintro e W11 ⟨rfl, hb⟩
        have hB11 := hid_of (hBb.out.trans (hb.mono hBb.out.size))
        clear hb hrd hBb n1 n2 n3
        clear hka hkb hzd hza hzb
        cases ka <;> cases kb
        all_goals
          go_wp2_with fail
          refine (live_any W11 (hid_of (hE.out.keep hB11.out))).mono ?_
          rintro e WL ⟨rfl, hbL⟩
          have hBL := hid_of (hB11.out.trans (hbL.mono hB11.out.size))
          clear hbL
          go_wp2_with fail
          go_ret
          exact ⟨rfl, hBL.out⟩
      · have hzb2 : Hid (parseZ (allT ta tb) ≠ 0) := by rw [Hid, hzd.out]; exact hgd
        replace hgd := hid_of hgd
        clear hbad
        have hDw := hid_of (below_drew (Below.refl W7.heap.size W7))
        have hBd := hid_of (hB7.out.trans (hDw.out.mono hB7.out.size))
        replace n1 := hid_of (block_keep n1.out hDw.out)
        replace n2 := hid_of (block_keep n2.out hDw.out)
        replace n3 := hid_of (block_keep n3.out hDw.out)
        obtain ⟨p0, p1, p2, p3, p4, -⟩ := row_cells n1.out
        obtain ⟨r0, r1, r2, r3, r4, -⟩ := row_cells n3.out
        clear hDw hB7
        have hob := hid_of (object_v wNot ta ua W7.drew (VRep.keep hBd.out _ _ hVa.out))
        unfold V5.v at hob
        go_region_held3 (fun V => V.cell? ⟨w.heap.size, 0, none⟩ = some (.int .i64 ua.k) ∧ V.cell? ⟨w.heap.size, 1, none⟩ = some (.int .i64 ua.x) ∧ V.cell? ⟨w.heap.size, 2, none⟩ = some (.string ua.s) ∧ V.cell? ⟨w.heap.size, 3, none⟩ = some (.slice ua.an ua.ln ua.cn) ∧ V.cell? ⟨w.heap.size, 4, none⟩ = some (.slice ua.ai ua.li ua.ci) ∧ V.cell? ⟨w.heap.size + 1 + 1, 0, none⟩ = some (.int .i64 uv.k) ∧ V.cell? ⟨w.heap.size + 1 + 1, 1, none⟩ = some (.int .i64 uv.x) ∧ V.cell? ⟨w.heap.size + 1 + 1, 2, none⟩ = some (.string uv.s) ∧ V.cell? ⟨w.heap.size + 1 + 1, 3, none⟩ = some (.slice uv.an uv.ln uv.cn) ∧ V.cell? ⟨w.heap.size + 1 + 1, 4, none⟩ = some (.slice uv.ai uv.li uv.ci)) (go_keep) (first
          | (go_at_call 5; refine hob.out.mono ?_; rintro e Wo ⟨hbo, bn, bi, rfl, hVo⟩; have gp0 := stay hbo p0; have gp1 := stay hbo p1; have gp2 := stay hbo p2; have gp3 := stay hbo p3; have gp4 := stay hbo p4; have gr0 := stay hbo r0; have gr1 := stay hbo r1; have gr2 := stay hbo r2; have gr3 := stay hbo r3; have gr4 := stay hbo r4; have hBb := hid_of (hBd.out.trans (hbo.mono hBd.out.size)); have k1 := hid_of (block_keep n1.out hbo); have k2 := hid_of (block_keep n2.out hbo); have k3 := hid_of (block_keep n3.out hbo); have hkp := hid_of (keeps_some (hIt.out.later hBb.out) hVo (small_obj (by decide) hSa.out) (VRep.keep hBb.out _ _ hVv.out) hSv.out (hE.out.keep hBb.out)); unfold V5.v at hkp; replace hVo := hid_of hVo; clear hbo hob p0 p1 p2 p3 p4 r0 r1 r2 r3 r4)
          | (go_at_call 9; refine hkp.out.mono ?_; rintro e W8 ⟨⟨a81, a82, rfl⟩, hbk⟩; have hgp0 := stay hbk gp0; have hgp1 := stay hbk gp1; have hgp2 := stay hbk gp2; have hgp3 := stay hbk gp3; have hgp4 := stay hbk gp4; have hgr0 := stay hbk gr0; have hgr1 := stay hbk gr1; have hgr2 := stay hbk gr2; have hgr3 := stay hbk gr3; have hgr4 := stay hbk gr4; have hB8 := hid_of (hBb.out.trans (hbk.mono hBb.out.size)); have j1 := hid_of (block_keep k1.out hbk); have j2 := hid_of (block_keep k2.out hbk); have j3 := hid_of (block_keep k3.out hbk); clear hbk hkp hVo hBb k1 k2 k3 gp0 gp1 gp2 gp3 gp4 gr0 gr1 gr2 gr3 gr4))
        clear hgp0 hgp1 hgp2 hgp3 hgp4 hgr0 hgr1 hgr2 hgr3 hgr4 n1 n2 n3 hBd
        have n1 := j1
        have n2 := j2
        have n3 := j3
        clear j1 j2 j3
        go_upto_region 21 with fail
        have hDw := hid_of (below_drew (Below.refl W8.heap.size W8))
        have hBd := hid_of (hB8.out.trans (hDw.out.mono hB8.out.size))
        replace n1 := hid_of (block_keep n1.out hDw.out)
        replace n2 := hid_of (block_keep n2.out hDw.out)
        replace n3 := hid_of (block_keep n3.out hDw.out)
        obtain ⟨p0, p1, p2, p3, p4, -⟩ := row_cells n1.out
        obtain ⟨q0, q1, q2, q3, q4, -⟩ := row_cells n2.out
        obtain ⟨r0, r1, r2, r3, r4, -⟩ := row_cells n3.out
        clear hDw hB8
        have hOw : Hid (Below W8.drew.heap.size W8.drew ((W8.alloc (.cells #[.int .i64 ua.k, .int .i64 ua.x, .string ua.s, .slice ua.an ua.ln ua.cn, .slice ua.ai ua.li ua.ci, .int .i64 ub.k, .int .i64 ub.x, .string ub.s, .slice ub.an ub.ln ub.cn, .slice ub.ai ub.li ub.ci] 25)).drew)) := below_drew_alloc W8 _
        have hBo := hid_of (hBd.out.trans (hOw.out.mono hBd.out.size))
        have hrow : Hid (RowT ((W8.alloc (.cells #[.int .i64 ua.k, .int .i64 ua.x, .string ua.s, .slice ua.an ua.ln ua.cn, .slice ua.ai ua.li ua.ci, .int .i64 ub.k, .int .i64 ub.x, .string ub.s, .slice ub.an ub.ln ub.cn, .slice ub.ai ub.li ub.ci] 25)).drew) (some ⟨W8.heap.size, 0, none⟩) [ta, tb]) := row_two (VRep.keep hBo.out _ _ hVa.out) (VRep.keep hBo.out _ _ hVb.out) (heap_alloc_new W8 (.cells #[.int .i64 ua.k, .int .i64 ua.x, .string ua.s, .slice ua.an ua.ln ua.cn, .slice ua.ai ua.li ua.ci, .int .i64 ub.k, .int .i64 ub.x, .string ub.s, .slice ub.an ub.ln ub.cn, .slice ub.ai ub.li ub.ci] 25))
        have hls := fun W => hid_of (list_any W8.heap.size 2 2 W)
        unfold V5.v at hls
        have po0 := stay hOw.out p0
        have po1 := stay hOw.out p1
        have po2 := stay hOw.out p2
        have po3 := stay hOw.out p3
        have po4 := stay hOw.out p4
        have qo0 := stay hOw.out q0
        have qo1 := stay hOw.out q1
        have qo2 := stay hOw.out q2
        have qo3 := stay hOw.out q3
        have qo4 := stay hOw.out q4
        have ro0 := stay hOw.out r0
        have ro1 := stay hOw.out r1
        have ro2 := stay hOw.out r2
        have ro3 := stay hOw.out r3
        have ro4 := stay hOw.out r4
        go_region_held3 (fun V => V.cell? ⟨w.heap.size, 0, none⟩ = some (.int .i64 ua.k) ∧ V.cell? ⟨w.heap.size, 1, none⟩ = some (.int .i64 ua.x) ∧ V.cell? ⟨w.heap.size, 2, none⟩ = some (.string ua.s) ∧ V.cell? ⟨w.heap.size, 3, none⟩ = some (.slice ua.an ua.ln ua.cn) ∧ V.cell? ⟨w.heap.size, 4, none⟩ = some (.slice ua.ai ua.li ua.ci) ∧ V.cell? ⟨w.heap.size + 1, 0, none⟩ = some (.int .i64 ub.k) ∧ V.cell? ⟨w.heap.size + 1, 1, none⟩ = some (.int .i64 ub.x) ∧ V.cell? ⟨w.heap.size + 1, 2, none⟩ = some (.string ub.s) ∧ V.cell? ⟨w.heap.size + 1, 3, none⟩ = some (.slice ub.an ub.ln ub.cn) ∧ V.cell? ⟨w.heap.size + 1, 4, none⟩ = some (.slice ub.ai ub.li ub.ci) ∧ V.cell? ⟨w.heap.size + 1 + 1, 0, none⟩ = some (.int .i64 uv.k) ∧ V.cell? ⟨w.heap.size + 1 + 1, 1, none⟩ = some (.int .i64 uv.x) ∧ V.cell? ⟨w.heap.size + 1 + 1, 2, none⟩ = some (.string uv.s) ∧ V.cell? ⟨w.heap.size + 1 + 1, 3, none⟩ = some (.slice uv.an uv.ln uv.cn) ∧ V.cell? ⟨w.heap.size + 1 + 1, 4, none⟩ = some (.slice uv.ai uv.li uv.ci)) (go_keep) (first
          | (go_at_call 10; refine (hls _).out.mono ?_; rintro e Wl ⟨rfl, hbl⟩; have dp0 := stay hbl po0; have dp1 := stay hbl po1; have dp2 := stay hbl po2; have dp3 := stay hbl po3; have dp4 := stay hbl po4; have dq0 := stay hbl qo0; have dq1 := stay hbl qo1; have dq2 := stay hbl qo2; have dq3 := stay hbl qo3; have dq4 := stay hbl qo4; have dr0 := stay hbl ro0; have dr1 := stay hbl ro1; have dr2 := stay hbl ro2; have dr3 := stay hbl ro3; have dr4 := stay hbl ro4; have hBl := hid_of (hBo.out.trans (hbl.mono hBo.out.size)); have hVl := hid_of (vrep_list (c := 2) (hrow.out.keep hbl) (by simp)); have m1 := hid_of (block_keep (block_keep n1.out hOw.out) hbl); have m2 := hid_of (block_keep (block_keep n2.out hOw.out) hbl); have m3 := hid_of (block_keep (block_keep n3.out hOw.out) hbl); have hob := hid_of (object_v wAllOf (listT [ta, tb]) (listU W8.heap.size 2 2) Wl hVl.out); unfold V5.v listU at hob; clear hbl hrow hOw hBo hls n1 n2 n3 po0 p0 po1 p1 po2 p2 po3 p3 po4 p4 qo0 q0 qo1 q1 qo2 q2 qo3 q3 qo4 q4 ro0 r0 ro1 r1 ro2 r2 ro3 r3 ro4 r4)
          | (go_at_call 5; refine hob.out.mono ?_; rintro e Wo ⟨hbo, bn, bi, rfl, hVo⟩; have gdp0 := stay hbo dp0; have gdp1 := stay hbo dp1; have gdp2 := stay hbo dp2; have gdp3 := stay hbo dp3; have gdp4 := stay hbo dp4; have gdq0 := stay hbo dq0; have gdq1 := stay hbo dq1; have gdq2 := stay hbo dq2; have gdq3 := stay hbo dq3; have gdq4 := stay hbo dq4; have gdr0 := stay hbo dr0; have gdr1 := stay hbo dr1; have gdr2 := stay hbo dr2; have gdr3 := stay hbo dr3; have gdr4 := stay hbo dr4; have hBb := hid_of (hBl.out.trans (hbo.mono hBl.out.size)); have k1 := hid_of (block_keep m1.out hbo); have k2 := hid_of (block_keep m2.out hbo); have k3 := hid_of (block_keep m3.out hbo); have hkp := hid_of (keeps_bad (hIt.out.later hBb.out) hVo (small_obj (by decide) (small_list hSa.out hSb.out)) (VRep.keep hBb.out _ _ hVv.out) hSv.out (hE.out.keep hBb.out) hzb2.out); unfold V5.v at hkp; replace hVo := hid_of hVo; clear hbo hob dp0 dp1 dp2 dp3 dp4 dq0 dq1 dq2 dq3 dq4 dr0 dr1 dr2 dr3 dr4)
          | (go_at_call 9; refine hkp.out.mono ?_; rintro e W9 ⟨rfl, hbk⟩; have hgdp0 := stay hbk gdp0; have hgdp1 := stay hbk gdp1; have hgdp2 := stay hbk gdp2; have hgdp3 := stay hbk gdp3; have hgdp4 := stay hbk gdp4; have hgdq0 := stay hbk gdq0; have hgdq1 := stay hbk gdq1; have hgdq2 := stay hbk gdq2; have hgdq3 := stay hbk gdq3; have hgdq4 := stay hbk gdq4; have hgdr0 := stay hbk gdr0; have hgdr1 := stay hbk gdr1; have hgdr2 := stay hbk gdr2; have hgdr3 := stay hbk gdr3; have hgdr4 := stay hbk gdr4; have hB9 := hid_of (hBb.out.trans (hbk.mono hBb.out.size)); have j1 := hid_of (block_keep k1.out hbk); have j2 := hid_of (block_keep k2.out hbk); have j3 := hid_of (block_keep k3.out hbk); clear hbk hkp hVo hBb k1 k2 k3 gdp0 gdp1 gdp2 gdp3 gdp4 gdq0 gdq1 gdq2 gdq3 gdq4 gdr0 gdr1 gdr2 gdr3 gdr4))
        clear hgdp0 hgdp1 hgdp2 hgdp3 hgdp4 hgdq0 hgdq1 hgdq2 hgdq3 hgdq4 hgdr0 hgdr1 hgdr2 hgdr3 hgdr4 hVl hBl m1 m2 m3 hBd
        have n1 := j1
        have n2 := j2
        have n3 := j3
        clear j1 j2 j3
        go_upto_region 22 with fail
        have hDw := hid_of (below_drew (Below.refl W9.heap.size W9))
        have hBd := hid_of (hB9.out.trans (hDw.out.mono hB9.out.size))
        replace n1 := hid_of (block_keep n1.out hDw.out)
        replace n2 := hid_of (block_keep n2.out hDw.out)
        replace n3 := hid_of (block_keep n3.out hDw.out)
        obtain ⟨p0, p1, p2, p3, p4, -⟩ := row_cells n1.out
        obtain ⟨q0, q1, q2, q3, q4, -⟩ := row_cells n2.out
        obtain ⟨r0, r1, r2, r3, r4, -⟩ := row_cells n3.out
        clear hDw hB9
        have hOw : Hid (Below W9.drew.heap.size W9.drew ((W9.alloc (.cells #[.int .i64 ua.k, .int .i64 ua.x, .string ua.s, .slice ua.an ua.ln ua.cn, .slice ua.ai ua.li ua.ci, .int .i64 ub.k, .int .i64 ub.x, .string ub.s, .slice ub.an ub.ln ub.cn, .slice ub.ai ub.li ub.ci] 25)).drew)) := below_drew_alloc W9 _
        have hBo := hid_of (hBd.out.trans (hOw.out.mono hBd.out.size))
        have hrow : Hid (RowT ((W9.alloc (.cells #[.int .i64 ua.k, .int .i64 ua.x, .string ua.s, .slice ua.an ua.ln ua.cn, .slice ua.ai ua.li ua.ci, .int .i64 ub.k, .int .i64 ub.x, .string ub.s, .slice ub.an ub.ln ub.cn, .slice ub.ai ub.li ub.ci] 25)).drew) (some ⟨W9.heap.size, 0, none⟩) [ta, tb]) := row_two (VRep.keep hBo.out _ _ hVa.out) (VRep.keep hBo.out _ _ hVb.out) (heap_alloc_new W9 (.cells #[.int .i64 ua.k, .int .i64 ua.x, .string ua.s, .slice ua.an ua.ln ua.cn, .slice ua.ai ua.li ua.ci, .int .i64 ub.k, .int .i64 ub.x, .string ub.s, .slice ub.an ub.ln ub.cn, .slice ub.ai ub.li ub.ci] 25))
        have hls := fun W => hid_of (list_any W9.heap.size 2 2 W)
        unfold V5.v at hls
        have po0 := stay hOw.out p0
        have po1 := stay hOw.out p1
        have po2 := stay hOw.out p2
        have po3 := stay hOw.out p3
        have po4 := stay hOw.out p4
        have qo0 := stay hOw.out q0
        have qo1 := stay hOw.out q1
        have qo2 := stay hOw.out q2
        have qo3 := stay hOw.out q3
        have qo4 := stay hOw.out q4
        have ro0 := stay hOw.out r0
        have ro1 := stay hOw.out r1
        have ro2 := stay hOw.out r2
        have ro3 := stay hOw.out r3
        have ro4 := stay hOw.out r4
        go_region_held3 (fun V => V.cell? ⟨w.heap.size, 0, none⟩ = some (.int .i64 ua.k) ∧ V.cell? ⟨w.heap.size, 1, none⟩ = some (.int .i64 ua.x) ∧ V.cell? ⟨w.heap.size, 2, none⟩ = some (.string ua.s) ∧ V.cell? ⟨w.heap.size, 3, none⟩ = some (.slice ua.an ua.ln ua.cn) ∧ V.cell? ⟨w.heap.size, 4, none⟩ = some (.slice ua.ai ua.li ua.ci) ∧ V.cell? ⟨w.heap.size + 1, 0, none⟩ = some (.int .i64 ub.k) ∧ V.cell? ⟨w.heap.size + 1, 1, none⟩ = some (.int .i64 ub.x) ∧ V.cell? ⟨w.heap.size + 1, 2, none⟩ = some (.string ub.s) ∧ V.cell? ⟨w.heap.size + 1, 3, none⟩ = some (.slice ub.an ub.ln ub.cn) ∧ V.cell? ⟨w.heap.size + 1, 4, none⟩ = some (.slice ub.ai ub.li ub.ci) ∧ V.cell? ⟨w.heap.size + 1 + 1, 0, none⟩ = some (.int .i64 uv.k) ∧ V.cell? ⟨w.heap.size + 1 + 1, 1, none⟩ = some (.int .i64 uv.x) ∧ V.cell? ⟨w.heap.size + 1 + 1, 2, none⟩ = some (.string uv.s) ∧ V.cell? ⟨w.heap.size + 1 + 1, 3, none⟩ = some (.slice uv.an uv.ln uv.cn) ∧ V.cell? ⟨w.heap.size + 1 + 1, 4, none⟩ = some (.slice uv.ai uv.li uv.ci)) (go_keep) (first
          | (go_at_call 10; refine (hls _).out.mono ?_; rintro e Wl ⟨rfl, hbl⟩; have dp0 := stay hbl po0; have dp1 := stay hbl po1; have dp2 := stay hbl po2; have dp3 := stay hbl po3; have dp4 := stay hbl po4; have dq0 := stay hbl qo0; have dq1 := stay hbl qo1; have dq2 := stay hbl qo2; have dq3 := stay hbl qo3; have dq4 := stay hbl qo4; have dr0 := stay hbl ro0; have dr1 := stay hbl ro1; have dr2 := stay hbl ro2; have dr3 := stay hbl ro3; have dr4 := stay hbl ro4; have hBl := hid_of (hBo.out.trans (hbl.mono hBo.out.size)); have hVl := hid_of (vrep_list (c := 2) (hrow.out.keep hbl) (by simp)); have m1 := hid_of (block_keep (block_keep n1.out hOw.out) hbl); have m2 := hid_of (block_keep (block_keep n2.out hOw.out) hbl); have m3 := hid_of (block_keep (block_keep n3.out hOw.out) hbl); have hob := hid_of (object_v wAnyOf (listT [ta, tb]) (listU W9.heap.size 2 2) Wl hVl.out); unfold V5.v listU at hob; clear hbl hrow hOw hBo hls n1 n2 n3 po0 p0 po1 p1 po2 p2 po3 p3 po4 p4 qo0 q0 qo1 q1 qo2 q2 qo3 q3 qo4 q4 ro0 r0 ro1 r1 ro2 r2 ro3 r3 ro4 r4)
          | (go_at_call 5; refine hob.out.mono ?_; rintro e Wo ⟨hbo, bn, bi, rfl, hVo⟩; have gdp0 := stay hbo dp0; have gdp1 := stay hbo dp1; have gdp2 := stay hbo dp2; have gdp3 := stay hbo dp3; have gdp4 := stay hbo dp4; have gdq0 := stay hbo dq0; have gdq1 := stay hbo dq1; have gdq2 := stay hbo dq2; have gdq3 := stay hbo dq3; have gdq4 := stay hbo dq4; have gdr0 := stay hbo dr0; have gdr1 := stay hbo dr1; have gdr2 := stay hbo dr2; have gdr3 := stay hbo dr3; have gdr4 := stay hbo dr4; have hBb := hid_of (hBl.out.trans (hbo.mono hBl.out.size)); have k1 := hid_of (block_keep m1.out hbo); have k2 := hid_of (block_keep m2.out hbo); have k3 := hid_of (block_keep m3.out hbo); have hkp := hid_of (keeps_some (hIt.out.later hBb.out) hVo (small_obj (by decide) (small_list hSa.out hSb.out)) (VRep.keep hBb.out _ _ hVv.out) hSv.out (hE.out.keep hBb.out)); unfold V5.v at hkp; replace hVo := hid_of hVo; clear hbo hob dp0 dp1 dp2 dp3 dp4 dq0 dq1 dq2 dq3 dq4 dr0 dr1 dr2 dr3 dr4)
          | (go_at_call 9; refine hkp.out.mono ?_; rintro e W10 ⟨⟨a101, a102, rfl⟩, hbk⟩; have hgdp0 := stay hbk gdp0; have hgdp1 := stay hbk gdp1; have hgdp2 := stay hbk gdp2; have hgdp3 := stay hbk gdp3; have hgdp4 := stay hbk gdp4; have hgdq0 := stay hbk gdq0; have hgdq1 := stay hbk gdq1; have hgdq2 := stay hbk gdq2; have hgdq3 := stay hbk gdq3; have hgdq4 := stay hbk gdq4; have hgdr0 := stay hbk gdr0; have hgdr1 := stay hbk gdr1; have hgdr2 := stay hbk gdr2; have hgdr3 := stay hbk gdr3; have hgdr4 := stay hbk gdr4; have hB10 := hid_of (hBb.out.trans (hbk.mono hBb.out.size)); have j1 := hid_of (block_keep k1.out hbk); have j2 := hid_of (block_keep k2.out hbk); have j3 := hid_of (block_keep k3.out hbk); clear hbk hkp hVo hBb k1 k2 k3 gdp0 gdp1 gdp2 gdp3 gdp4 gdq0 gdq1 gdq2 gdq3 gdq4 gdr0 gdr1 gdr2 gdr3 gdr4))
        clear hgdp0 hgdp1 hgdp2 hgdp3 hgdp4 hgdq0 hgdq1 hgdq2 hgdq3 hgdq4 hgdr0 hgdr1 hgdr2 hgdr3 hgdr4 hVl hBl m1 m2 m3 hBd
        have n1 := j1
        have n2 := j2
        have n3 := j3
        clear j1 j2 j3
        clear hkk hzb2
        obtain ⟨p0, p1, p2, p3, p4, -⟩ := row_cells n1.out
        obtain ⟨q0, q1, q2, q3, q4, -⟩ := row_cells n2.out
        have hOw := hid_of ((Below.refl W10.heap.size W10).alloc (Nat.le_refl _) (.cells #[.int .i64 ua.k, .int .i64 ua.x, .string ua.s, .slice ua.an ua.ln ua.cn, .slice ua.ai ua.li ua.ci, .int .i64 ub.k, .int .i64 ub.x, .string ub.s, .slice ub.an ub.ln ub.cn, .slice ub.ai ub.li ub.ci] 25))
        have hBo := hid_of (hB10.out.trans (hOw.out.mono hB10.out.size))
        have hrow := hid_of (row_two (VRep.keep hBo.out _ _ hVa.out) (VRep.keep hBo.out _ _ hVb.out) (heap_alloc_new W10 (.cells #[.int .i64 ua.k, .int .i64 ua.x, .string ua.s, .slice ua.an ua.ln ua.cn, .slice ua.ai ua.li ua.ci, .int .i64 ub.k, .int .i64 ub.x, .string ub.s, .slice ub.an ub.ln ub.cn, .slice ub.ai ub.li ub.ci] 25)))
        replace n1 := hid_of (block_keep n1.out hOw.out)
        replace n2 := hid_of (block_keep n2.out hOw.out)
        replace n3 := hid_of (block_keep n3.out hOw.out)
        have hls := fun W => hid_of (list_any W10.heap.size 2 2 W)
        unfold V5.v at hls
        clear hB10 hOw
        go_wp2_with fail
        refine (hls _).out.mono ?_
        rintro e Wl ⟨rfl, hb⟩
        have hBl := hid_of (hBo.out.trans (hb.mono hBo.out.size))
        have hVl := hid_of (vrep_list (c := 2) (hrow.out.keep hb) (by simp))
        replace n1 := hid_of (block_keep n1.out hb)
        replace n2 := hid_of (block_keep n2.out hb)
        replace n3 := hid_of (block_keep n3.out hb)
        clear p0 p1 p2 p3 p4 q0 q1 q2 q3 q4
        have hob := hid_of (object_v wAllOf (listT [ta, tb]) (listU W10.heap.size 2 2) Wl hVl.out)
        unfold V5.v listU at hob
        clear hb hrow hBo hls
        go_wp2_with fail
        refine hob.out.mono ?_
        rintro e Wo ⟨hb, bn2, bi2, rfl, hVo⟩
        have hBb := hid_of (hBl.out.trans (hb.mono hBl.out.size))
        replace n1 := hid_of (block_keep n1.out hb)
        replace n2 := hid_of (block_keep n2.out hb)
        replace n3 := hid_of (block_keep n3.out hb)
        have hrd := hid_of (read_any (allT ta tb) (objU bn2 bi2) Wo (hid_of hVo) (hid_of (small_obj (by decide) (small_list hSa.out hSb.out))) (hid_of (range_obj (range_list hRa.out hRb.out))))
        rw [hzd.out] at hrd
        unfold V5.v objU at hrd
        clear hb hob hBl hVl hVo
        unfold objU
        go_wp2_with fail
        refine hrd.out.mono ?_
        rintro e W11 ⟨rfl, hb⟩
        have hB11 := hid_of (hBb.out.trans (hb.mono hBb.out.size))
        clear hb hrd hBb n1 n2 n3
        have hd1 : (zd != 0) = true := by simpa using hgd.out
        clear hka hkb hzd hza hzb hgd
        go_wp2_with fail
        refine (live_any W11 (hid_of (hE.out.keep hB11.out))).mono ?_
        rintro e WL ⟨rfl, hbL⟩
        have hBL := hid_of (hB11.out.trans (hbL.mono hB11.out.size))
        clear hbL
        go_wp2_with fail
        go_ret
        exact ⟨rfl, hBL.out⟩
end Go.Proofs.YtbcfkajcmbckbaaGreatDoor
