import Derived.Test.YtnccaidlcaeeaaaGreatDoorPM
import Derived.Test.YtnccaidlcaeeaaaGreatDoorPP
/-! The document's reader of texts: is a name among some? -/
namespace Go.Proofs.YtnccaidlcaeeaaaGreatDoor.Tree
open Go Go.RowKit

theorem hasName_at {l : List ByteArray} {s u : ByteArray} {i : Nat} (h : l[i]? = some u) : hasName (l.drop i) s = (decide (u.data = s.data) || hasName (l.drop (i + 1)) s) := by
  obtain ⟨hi, rfl⟩ := List.getElem?_eq_some_iff.1 h
  unfold hasName
  rw [List.drop_eq_getElem_cons hi, List.any_cons]
theorem data_same (a b : ByteArray) : decide (a.data = b.data) = (a.toList == b.toList) := by
  rw [str_same]
  congr 1
  rw [eq_iff_iff]
  exact ⟨fun h => ByteArray.ext h, fun h => by rw [h]⟩
set_option maxHeartbeats 2000000 in
theorem has_code (v : Value) (l : List ByteArray) (s : ByteArray) (w : World) (hR : Hid (Reads w v l)) :
    Calls Tryz.prog 58 #[v, .string s] w fun x w' => x = .returned (.bool (hasName l s)) ∧ ∃ q, w' = w.drewN q := by
  obtain ⟨B, hB⟩ : ∃ B, Hid (hasName l s = B) := ⟨_, hid_e rfl⟩
  rw [hB.out]
  obtain ⟨a, c, rfl, hc, hrd⟩ := hR.out
  clear hR
  obtain ⟨n, hn⟩ : ∃ n, Hid (l.length = n) := ⟨_, hid_e rfl⟩
  rw [hn.out] at hc ⊢
  replace hrd := hid_e hrd
  go_enter Tryz.func58, Tryz.ntmps58
  go_wp2_with fail
  go_loopw [5] (fun iv wr => ∃ i : Nat, i ≤ n ∧ iv = .int .i64 i ∧ Hid (hasName (l.drop i) s = B) ∧ Hid (∃ q, wr = w.drewN q)) (fun iv _ => n - (intOf iv).toNat)
  case atStart => exact ⟨0, Nat.zero_le _, rfl, hB, hid_e ⟨0, rfl⟩⟩
  case round =>
    obtain ⟨i, hi, rfl, hK, hq⟩ := hrel
    obtain ⟨q, rfl⟩ := hq.out
    by_cases hlt : i < n
    · have i1 : (i : Int) < (n : Int) := by omega
      have i2 : (0 : Int) ≤ (i : Int) := by omega
      obtain ⟨u, hu⟩ : ∃ u, Hid (l[i]? = some u) := ⟨_, hid_e (List.getElem?_eq_getElem (by rw [hn.out]; exact hlt))⟩
      obtain ⟨b, o, rfl, -, hrd'⟩ := hrd.out.resolve_left (by intro e; have := hn.out; rw [e] at this; simp at this; omega)
      have nc : (w.drewN q).cell? ⟨b, o + i, none⟩ = some (.string u) := hrd' i u hu.out
      clear hrd' hrd
      have hst := hid_e (hasName_at (s := s) hu.out)
      cases hs : (u.toList == s.toList) with
      | true =>
        have hBe : Hid (B = true) := by rw [Hid, ← hK.out, hst.out, data_same, hs]; rfl
        go_wp2_with fail
        go_ret
        rw [hBe.out]
        exact ⟨rfl, q, rfl⟩
      | false =>
        have hK' : Hid (hasName (l.drop (i + 1)) s = B) := by rw [Hid, ← hK.out, hst.out, data_same, hs]; rfl
        go_wp2_with fail
        exact ⟨⟨i + 1, by omega, by go_num, hK', hid_e ⟨q, rfl⟩⟩, by simp [intOf]; omega⟩
    · have i1 : ¬ (i : Int) < (n : Int) := by omega
      have hBe : Hid (B = false) := by rw [Hid, ← hK.out, List.drop_eq_nil_of_le (by rw [hn.out]; omega)]; rfl
      go_wp2_with fail
      go_ret
      rw [hBe.out]
      exact ⟨rfl, q, rfl⟩
end Go.Proofs.YtnccaidlcaeeaaaGreatDoor.Tree
/-! The document's reader of texts: objects. -/
namespace Go.Proofs.YtnccaidlcaeeaaaGreatDoor.Tree
open Go Go.RowKit

theorem str_one (s : ByteArray) : ∀ u ∈ [Value.string s], u.oneCell' = true := by
  intro u hu
  simp only [List.mem_cons, List.not_mem_nil, or_false] at hu
  rw [hu]; rfl
theorem qm_endN {w wr : World} {r : Nat} {ns : List ByteArray} {sn : ByteArray} {its : List J} {u : J} {xs : List Value} {gn cN : Nat} {gi m cI : Nat} {k : Int} (h : QM w r k (.slice (some ⟨gn, 0, none⟩) (ns.length + 1) cN) (.slice (some ⟨gi, 0, none⟩) (m + 1) cI) (.slice (some ⟨gn, 0, none⟩) (ns.length + 1) cN) (.slice (some ⟨gi, 0, none⟩) (m + 1) cI) (ns.length + 1) (strs ns ++ [.string sn]) (m + 1) xs (ofL its ++ [ofJ u]) xs wr) (hm : its.length = m) (c0 c1 c2 c3 c4 : Value) :
    Seen (put5 wr w.heap.size c0 c1 c2 c3 c4) (fun j => w.heap.size ≤ j) (.node k 0 ⟨#[]⟩ (ns ++ [sn]) (ofL (its ++ [u]))) (five k 0 ⟨#[]⟩ (.slice (some ⟨gn, 0, none⟩) (ns.length + 1) cN) (.slice (some ⟨gi, 0, none⟩) (m + 1) cI)) := by
  have e : (ns ++ [sn]).length = ns.length + 1 := by simp
  rw [← strs_snoc, ← e] at h
  rw [← e]
  exact qm_endJ h hm c0 c1 c2 c3 c4
/-- Behind a member's value. -/
def memCont (T : ByteArray) (val : Nat → Res J) (g : Nat) (ns : List ByteArray) (its : List J) (s : ByteArray) : Res J → Res J
  | .bad e p => .bad e p
  | .ok u q3 => (if skip T q3 < T.size then if byteAt T (skip T q3) = 125 then (.ok (ns ++ [s], its ++ [u]) (skip T q3 + 1) : Res (List ByteArray × List J)) else if byteAt T (skip T q3) = 44 then loopR (memberR T (textR T) val) 125 T g (ns ++ [s], its ++ [u]) (skip T (skip T q3 + 1)) else .bad 10 (skip T q3) else .bad 3 T.size).map (fun p => J.obj p.1 p.2)
/-- Behind a member's name. -/
def memTail (T : ByteArray) (val : Nat → Res J) (g : Nat) (ns : List ByteArray) (its : List J) : Res ByteArray → Res J
  | .bad e p => .bad e p
  | .ok s n' => memCont T val g ns its s (val n')
theorem mem_step (T : ByteArray) (val : Nat → Res J) (g : Nat) (ns : List ByteArray) (its : List J) (q : Nat) : (loopR (memberR T (textR T) val) 125 T (g + 1) (ns, its) q).map (fun p => J.obj p.1 p.2) = memTail T val g ns its (nameR T (textR T) ns q) := by
  rw [loopR]
  have e : memberR T (textR T) val (ns, its) q = (match nameR T (textR T) ns q with | .bad e q => .bad e q | .ok s n' => (val n').map fun j => (ns ++ [s], its ++ [j])) := rfl
  rw [e]
  cases nameR T (textR T) ns q with
  | bad e p => rfl
  | ok s n' =>
    dsimp only [memTail]
    cases val n' <;> rfl
set_option maxHeartbeats 16000000 in
set_option maxRecDepth 100000 in
theorem object_code (r : Nat) (T : ByteArray) (n d : Nat) (val : Nat → Res J) (w : World) (hT : T.size ≤ 65536) (h : Hid (RT w r T (n : Int) 0 0)) (hn : n < T.size) (hd : d ≤ 63) (hval : Hid (ValOkJ val r T ((d : Int) + 1))) (hfine : Hid (∀ q, q ≤ T.size → Fine T q (val q))) :
    Calls Tryz.prog 39 #[.pointer (some ⟨r, 0, none⟩), .int .i64 (d : Int)] w (RValPost w r T ((betweenR (memberR T (textR T) val) 125 T ([], []) n).map fun p => .obj p.1 p.2)) := by
  have hrl := h.out.lt
  obtain ⟨R, hR⟩ : ∃ R, Hid ((betweenR (memberR T (textR T) val) 125 T ([], []) n).map (fun p => J.obj p.1 p.2) = R) := ⟨_, hid_e rfl⟩
  rw [hR.out]
  obtain ⟨i0, hi, hz0, hz1, hz2⟩ := info_parts AV
  have hX0 : FrP (· = r) w ((w.alloc (.cells #[.int .i64 0, .int .i64 0, .string ⟨#[]⟩, .slice none 0 0, .slice none 0 0] 25)).alloc (.cells #[.int .i64 6, .int .i64 0, .string ⟨#[]⟩, .slice none 0 0, .slice none 0 0] 25)) := ((FrP.refl _ w).alloc _).alloc _
  have x1 := new1 w (.cells #[.int .i64 0, .int .i64 0, .string ⟨#[]⟩, .slice none 0 0, .slice none 0 0] 25) (.cells #[.int .i64 6, .int .i64 0, .string ⟨#[]⟩, .slice none 0 0, .slice none 0 0] 25)
  have x2 := new2 w (.cells #[.int .i64 0, .int .i64 0, .string ⟨#[]⟩, .slice none 0 0, .slice none 0 0] 25) (.cells #[.int .i64 6, .int .i64 0, .string ⟨#[]⟩, .slice none 0 0, .slice none 0 0] 25)
  have hR0 := RT.keep (S := fun _ => False) h.out (((FrP.refl _ w).alloc (.cells #[.int .i64 0, .int .i64 0, .string ⟨#[]⟩, .slice none 0 0, .slice none 0 0] 25)).alloc (.cells #[.int .i64 6, .int .i64 0, .string ⟨#[]⟩, .slice none 0 0, .slice none 0 0] 25)) (fun e => e)
  go_enter Tryz.func39, Tryz.ntmps39
  go_upto_region 2 with fail
  generalize ((w.alloc (.cells #[.int .i64 0, .int .i64 0, .string ⟨#[]⟩, .slice none 0 0, .slice none 0 0] 25)).alloc (.cells #[.int .i64 6, .int .i64 0, .string ⟨#[]⟩, .slice none 0 0, .slice none 0 0] 25)) = X1 at hX0 x1 x2 hR0 ⊢
  have hM0 : Hid (QM w r 6 (.slice none 0 0) (.slice none 0 0) (.slice none 0 0) (.slice none 0 0) 0 (strs []) 0 [] [] [] X1) := ⟨hrl, hX0, x1, x2, World.ownsRow_nil _ _ _ _, World.ownsRow_nil _ _ _ _, (fun j e => by cases e), (fun W' _ => by unfold ItemsRep; rfl)⟩
  clear hX0 x1 x2 h
  have hem := hid_e (empty_code r T 125 n X1 hT (hid_e hR0) hn)
  rw [show ((125 : UInt8).toNat : Int) = 125 from rfl] at hem
  have hs9 := skip_bd T (n + 1) hn
  obtain ⟨s, hs⟩ : ∃ s, Hid (skip T (n + 1) = s) := ⟨_, hid_e rfl⟩
  rw [hs.out] at hs9
  obtain ⟨hs1, hs2⟩ := hs9
  go_wp2_with fail
  go_fit hem.out
  clear hem
  rintro e1 w1 ⟨rfl, hS1, hF1⟩
  have hM1 := hid_e (hM0.out.next hF1)
  clear hM0 hF1 hR0
  by_cases hlt : s < T.size
  rotate_left
  · have hB : emptyB T 125 n = true := by unfold emptyB; rw [hs.out, decide_eq_false hlt]; rfl
    have hE : emptyR T 125 n = .bad 3 T.size := by unfold emptyR; rw [hs.out, if_neg hlt]
    have hRe : Hid (R = .bad 3 T.size) := by rw [Hid, ← hR.out]; unfold betweenR; rw [hs.out, if_neg hlt]; rfl
    rw [hB]
    rw [hE] at hS1
    replace hS1 := hid_e hS1
    clear hB hE
    obtain ⟨z0, z1, z2, z3, z4, -⟩ := row_cells hM1.out.box
    obtain ⟨v0, v1, v2, v3, v4, vf⟩ := row_cells hM1.out.res
    have vf0 := vf 0; have vf1 := vf 1; have vf2 := vf 2; have vf3 := vf 3; have vf4 := vf 4
    clear vf
    go_wp2_with fail
    have hr5 := put5_cells hM1.out.res (.int .i64 6) (.int .i64 0) (.string ⟨#[]⟩) (.slice none 0 0) (.slice none 0 0)
    have r0 := hr5 0; have r1 := hr5 1; have r2 := hr5 2; have r3 := hr5 3; have r4 := hr5 4
    clear hr5
    refine bodyPost_ret (v := .agg #[.int .i64 6, .int .i64 0, .string ⟨#[]⟩, .slice none 0 0, .slice none 0 0]) (by simp [results, Tryz.results39, go_sem, r0, r1, r2, r3, r4]) rfl ?_
    rw [hRe.out]
    exact RValPost.mk (w := w) hrl (fun j q e => by cases e) hS1.out hM1.out.fr
  by_cases hb : byteAt T s = 125
  · have hB : emptyB T 125 n = true := by unfold emptyB; rw [hs.out, hb]; simp
    have hE : emptyR T 125 n = .ok () (s + 1) := by unfold emptyR; rw [hs.out, if_pos hlt, if_pos hb]
    have hRe : Hid (R = .ok (.obj [] []) (s + 1)) := by rw [Hid, ← hR.out]; unfold betweenR; rw [hs.out, if_pos hlt, if_pos hb]; rfl
    rw [hB]
    rw [hE] at hS1
    replace hS1 : Hid (RT w1 r T ((s + 1 : Nat) : Int) 0 0) := hS1
    have hEn := fun c0 c1 c2 c3 c4 => hid_e (qm_end (ns := []) (its := []) hM1.out c0 c1 c2 c3 c4)
    clear hB hE hb
    obtain ⟨z0, z1, z2, z3, z4, -⟩ := row_cells hM1.out.box
    obtain ⟨v0, v1, v2, v3, v4, vf⟩ := row_cells hM1.out.res
    have vf0 := vf 0; have vf1 := vf 1; have vf2 := vf 2; have vf3 := vf 3; have vf4 := vf 4
    clear vf
    go_wp2_with fail
    have hr5 := put5_cells hM1.out.res (.int .i64 6) (.int .i64 0) (.string ⟨#[]⟩) (.slice none 0 0) (.slice none 0 0)
    have r0 := hr5 0; have r1 := hr5 1; have r2 := hr5 2; have r3 := hr5 3; have r4 := hr5 4
    clear hr5
    refine bodyPost_ret (v := .agg #[.int .i64 6, .int .i64 0, .string ⟨#[]⟩, .slice none 0 0, .slice none 0 0]) (by simp [results, Tryz.results39, go_sem, r0, r1, r2, r3, r4]) rfl ?_
    rw [hRe.out]
    exact RValPost.mk (w := w) hrl (fun j q e => by cases e; exact (hEn _ _ _ _ _).out) ⟨s + 1, Nat.le_refl _, hlt, rfl, hS1.out⟩ hM1.out.fr
  have hB : emptyB T 125 n = false := by unfold emptyB; rw [hs.out, decide_eq_true hlt]; simpa using hb
  have hE : emptyR T 125 n = .ok () s := by unfold emptyR; rw [hs.out, if_pos hlt, if_neg hb]
  rw [hB]
  rw [hE] at hS1
  replace hS1 : Hid (RT w1 r T (s : Int) 0 0) := hS1
  clear hB hE
  have hd1 : (d : Int) ≤ 100 := by omega
  have hwd : IntKind.i64.wrap ((d : Int) + 1) = (d : Int) + 1 := by have := Lib.wrap_i64_small (d + 1) (by omega); rw [show (((d + 1 : Nat) : Int)) = (d : Int) + 1 by omega] at this; exact this
  have hK0 : Hid ((loopR (memberR T (textR T) val) 125 T (T.size - s + 1) ([], []) s).map (fun p => J.obj p.1 p.2) = R) := by rw [Hid, ← hR.out]; unfold betweenR; rw [hs.out, if_pos hlt, if_neg hb]
  clear hb hR
  go_wp2_with fail
  obtain ⟨i9, hi9, hy0, hy1, hy2⟩ := info_parts A9
  go_loopg [] (T.size - s + 1) (fun gk wr => ∃ (q0 : Nat) (ns : List ByteArray) (its : List J) (m : Nat) (xI : List Value) (an : Option Addr) (cn : Nat) (ao : Option Addr) (ci : Nat), q0 ≤ T.size ∧ T.size - q0 < gk ∧ Hid (its.length = m) ∧ Hid (ns.length = m) ∧ m ≤ q0 ∧ Hid (RT wr r T (q0 : Int) 0 0) ∧ Hid (QM w r 6 (.slice an ns.length cn) (.slice ao m ci) (.slice an ns.length cn) (.slice ao m ci) ns.length (strs ns) m xI (ofL its) xI wr) ∧ Hid ((loopR (memberR T (textR T) val) 125 T gk (ns, its) q0).map (fun p => J.obj p.1 p.2) = R))
  case atStart => exact ⟨s, [], [], 0, [], none, 0, none, 0, hs2, by omega, hid_e rfl, hid_e rfl, Nat.zero_le _, hS1, hM1, hK0⟩
  case round =>
    clear hM1 hS1 hK0
    obtain ⟨q0, ns, its, m, xI, an, cn, ao, ci, hq0, hgk, him, hnm, hmq, hA, hM, hK⟩ := hrel
    obtain ⟨g', rfl⟩ : ∃ g', gk = g' + 1 := ⟨gk - 1, by omega⟩
    have hnl : ns.length ≤ 65536 := by have := hnm.out; omega
    have hKn : Hid (memTail T val g' ns its (nameR T (textR T) ns q0) = R) := by rw [Hid, ← hK.out, mem_step]
    clear hK
    obtain ⟨y0, y1, y2, y3, -⟩ := hA.out.cells
    go_upto_region 5 with fail
    clear y0 y1 y2 y3
    by_cases hlt0 : q0 < T.size
    rotate_left
    · have e1 : q0 = T.size := by omega
      have hRe : Hid (R = .bad 3 T.size) := by rw [Hid, ← hKn.out]; unfold nameR; rw [if_neg hlt0]; rfl
      have hnx := hid_e (next_short r T wr (by rw [← e1]; exact hA.out))
      clear e1
      go_upto_region 6 with fail
      go_fit hnx.out
      clear hnx
      rintro e1 w1 ⟨rfl, hS1, hF1⟩
      have hM1 := hid_e (hM.out.next hF1)
      have hVS : Hid (VSt w1 r T (.bad 3 T.size : Res J)) := ⟨by decide, _, hS1⟩
      obtain ⟨y0, y1, y2, y3, -⟩ := hS1.cells
      clear hM hA hF1 hS1
      obtain ⟨z0, z1, z2, z3, z4, -⟩ := row_cells hM1.out.box
      obtain ⟨v0, v1, v2, v3, v4, vf⟩ := row_cells hM1.out.res
      have vf0 := vf 0; have vf1 := vf 1; have vf2 := vf 2; have vf3 := vf 3; have vf4 := vf 4
      clear vf
      go_wp2_with fail
      have hr5 := put5_cells hM1.out.res (.int .i64 6) (.int .i64 0) (.string ⟨#[]⟩) (.slice an ns.length cn) (.slice ao m ci)
      have r0 := hr5 0; have r1 := hr5 1; have r2 := hr5 2; have r3 := hr5 3; have r4 := hr5 4
      clear hr5
      refine bodyPost_ret (v := .agg #[.int .i64 6, .int .i64 0, .string ⟨#[]⟩, .slice an ns.length cn, .slice ao m ci]) (by simp [results, Tryz.results39, go_sem, r0, r1, r2, r3, r4]) rfl ?_
      rw [hRe.out]
      exact RValPost.mk (w := w) hrl (fun j q e => by cases e) hVS.out hM1.out.fr
    have hnx := hid_e (next_byte r T q0 wr hA.out hlt0)
    go_upto_region 6 with fail
    go_fit hnx.out
    clear hnx
    rintro e1 w1 ⟨rfl, hS1, hF1⟩
    have hM1 := hid_e (hM.out.next hF1)
    replace hS1 := hid_e hS1
    clear hM hA hF1
    by_cases hb0 : byteAt T q0 = 34
    rotate_left
    · have hRe : Hid (R = .bad 10 q0) := by rw [Hid, ← hKn.out]; unfold nameR; rw [if_pos hlt0, if_neg hb0]; rfl
      have c1 := byte_ne hb0
      obtain ⟨z, hz⟩ : ∃ z : Int, Hid (((byteAt T q0).toNat : Int) = z) := ⟨_, hid_e rfl⟩
      rw [hz.out] at c1
      rw [hz.out]
      rw [show ((34 : UInt8).toNat : Int) = 34 from rfl] at c1
      have c2 : (z != 34) = true := by rw [bne, c1]; rfl
      clear c1 hb0
      have hfl := hid_e (fail_code r T (q0 : Int) (q0 : Int) 10 w1 hS1.out)
      obtain ⟨y0, y1, y2, y3, -⟩ := hS1.out.cells
      go_upto_region 8 with fail
      go_fit hfl.out
      clear hfl y0 y1 y2 y3
      rintro e2 w2 ⟨rfl, hS2, hF2⟩
      have hM2 := hid_e (hM1.out.next hF2)
      have hVS : Hid (VSt w2 r T (.bad 10 q0 : Res J)) := ⟨by decide, _, hS2⟩
      obtain ⟨y0, y1, y2, y3, -⟩ := hS2.cells
      clear hM1 hS1 hF2 hS2
      obtain ⟨z0, z1, z2, z3, z4, -⟩ := row_cells hM2.out.box
      obtain ⟨v0, v1, v2, v3, v4, vf⟩ := row_cells hM2.out.res
      have vf0 := vf 0; have vf1 := vf 1; have vf2 := vf 2; have vf3 := vf 3; have vf4 := vf 4
      clear vf
      go_wp2_with fail
      have hr5 := put5_cells hM2.out.res (.int .i64 6) (.int .i64 0) (.string ⟨#[]⟩) (.slice an ns.length cn) (.slice ao m ci)
      have r0 := hr5 0; have r1 := hr5 1; have r2 := hr5 2; have r3 := hr5 3; have r4 := hr5 4
      clear hr5
      refine bodyPost_ret (v := .agg #[.int .i64 6, .int .i64 0, .string ⟨#[]⟩, .slice an ns.length cn, .slice ao m ci]) (by simp [results, Tryz.results39, go_sem, r0, r1, r2, r3, r4]) rfl ?_
      rw [hRe.out]
      exact RValPost.mk (w := w) hrl (fun j q e => by cases e) hVS.out hM2.out.fr
    have hnr : nameR T (textR T) ns q0 = nameFin T ns q0 (textR T q0) := by unfold nameR; rw [if_pos hlt0, if_pos hb0]
    rw [hnr] at hKn
    clear hnr
    rw [hb0]
    rw [show (((34 : UInt8).toNat : Nat) : Int) = 34 from rfl]
    clear hb0
    have htx := hid_e (text_code r T q0 w1 hT hS1 hlt0)
    have htf := hid_e (text_fine T q0 hlt0)
    obtain ⟨y0, y1, y2, y3, -⟩ := hS1.out.cells
    go_upto_region 10 with fail
    clear y0 y1 y2 y3
    go_upto_region 11 with fail
    go_fit htx.out
    clear htx
    rintro e2 w2 ⟨⟨sn, rfl, hsv⟩, hS2, hF2⟩
    have hM2 := hid_e (hM1.out.next hF2)
    replace hsv := hid_e hsv
    clear hM1 hS1 hF2
    cases hX : textR T q0 with
    | bad e p =>
      rw [hX] at hS2 hKn
      have hRe : Hid (R = .bad e p) := by rw [Hid, ← hKn.out]; rfl
      obtain ⟨he, zd, hRz⟩ := hS2
      have hRx := hid_e hRz
      have hMe := hid_e hM2.out.blind
      obtain ⟨y0, y1, y2, y3, -⟩ := hRz.cells
      have he0 : ((e : Int) == 0) = false := by simpa using he
      clear hRz hM2 hKn
      go_upto_region 13 with fail
      clear y0 y1 y2 y3 he0
      obtain ⟨wd, hwd2⟩ : ∃ wd : World, wd = w2 := ⟨_, rfl⟩
      subst hwd2
      have hbl := hid_e (blanks_dead r T zd (p : Int) (e : Int) wd hRx.out (by omega))
      go_upto_region 14 with fail
      go_fit hbl.out
      clear hbl
      rintro e8 Wd ⟨rfl, hR3', hF3'⟩
      have hMd := hid_e (hMe.out.next hF3')
      have hRd := hid_e hR3'
      clear hR3' hF3' hMe hRx
      have hnd := hid_e (next_dead r T zd (p : Int) (e : Int) Wd hRd.out (by omega))
      go_upto_region 15 with fail
      go_fit hnd.out
      clear hnd
      rintro e8 W9 ⟨rfl, hw9⟩
      replace hw9 := hw9.symm
      subst hw9
      go_upto_region 17 with fail
      have hei : (e : Int) ≠ 0 := by omega
      obtain ⟨y0, y1, y2, y3, yf⟩ := hRd.out.cells
      have yf1 := yf 1
      clear yf
      obtain ⟨z9, hwz⟩ : ∃ z9, IntKind.i64.wrap (zd + 1) = z9 := ⟨_, rfl⟩
      have hR2 := hid_e (hRd.out.set1 z9)
      have hM2 := hid_e (hMd.out.next ((FrP.refl (· = r) Wd).set ⟨r, 1, none⟩ (.int .i64 z9) (.inl rfl)))
      go_upto_region 18 with fail
      clear y0 y1 y2 y3 yf1 hwz hMd
      generalize Wd.setCell ⟨r, 1, none⟩ (.int .i64 z9) = W2 at hR2 hM2 ⊢
      have hbl2 := hid_e (blanks_dead r T z9 (p : Int) (e : Int) W2 hR2.out hei)
      go_upto_region 19 with fail
      go_fit hbl2.out
      clear hbl2
      rintro e8 W3 ⟨rfl, hR3', hF3'⟩
      have hM3' := hid_e (hM2.out.next hF3')
      replace hR3' := hid_e hR3'
      clear hM2 hR2 hF3' hRd
      obtain ⟨-, -, -, z3, -, -⟩ := row_cells hM3'.out.box
      have hMa := hid_e (hM3'.out.alloc (.cells #[.string sn] 9))
      obtain ⟨-, -, -, z3a, -, -⟩ := row_cells hMa.out.box
      go_upto_region 19 with fail
      go_upto_region 20 with (at_builtin; refine wpList_append_lies _ rfl _ _ 22 rfl (w.heap.size + 2) 9 i9 _ 1 16 Tryz.underlying22 hi9 hy0 hy1 hy2 rfl (by decide) _ ns.length (strs ns) rfl hMa.out.names _ 1 1 [.string sn] rfl rfl (World.news_of_block (heap_alloc_new W3 (.cells #[.string sn] 9))) (str_one _) (by decide) (by unfold maxLen; omega) (by omega) hMa.out.size _ rfl ?_; intro gn cN Wn how hgr hat hlt; have hMb := hid_e (hMa.out.growN hgr hat how); obtain ⟨-, -, -, z3b, -, zfb⟩ := row_cells hMb.out.box; have zf3 := zfb 3; clear zfb; have hRb := hid_e (RT.keep (S := fun j => w.heap.size ≤ j) (RT.keep (S := fun _ => False) hR3'.out ((FrP.refl _ W3).alloc (.cells #[.string sn] 9)) (fun e => e)) ((FrP.refl _ _).grown hgr (fun g hg => .inl (by have := (ownsRow_ge hMa.out.names hg).1; omega))) (by omega)); replace hgr := hid_e hgr; clear hat hlt how)
      have hMc := hid_e (hMb.out.setN (.slice (some ⟨gn, 0, none⟩) (ns.length + 1) cN))
      have hRc := hid_e (RT.keep (S := fun j => w.heap.size ≤ j) hRb.out ((FrP.refl _ Wn).set ⟨w.heap.size + 1, 3, none⟩ (.slice (some ⟨gn, 0, none⟩) (ns.length + 1) cN) (.inl (by show w.heap.size ≤ w.heap.size + 1; omega))) (by omega))
      clear z3 z3a z3b zf3 hMa hMb hRb hgr hM3' hR3'
      generalize Wn.setCell ⟨w.heap.size + 1, 3, none⟩ (.slice (some ⟨gn, 0, none⟩) (ns.length + 1) cN) = Wc at hMc hRc ⊢
      replace he := hei
      clear hei
      go_upto_region 20 with fail
      replace hMc := hid_e hMc.out.drew
      have hbx := hMc.out.box
      have hRX := hid_e (RT.keep (S := fun _ => False) hRc.out ((FrP.refl _ Wc).drew) (fun e => e))
      have hcall := hid_e (value_dead r T ((d : Int) + 1) _ _ _ Wc.drew hRX.out he)
      generalize hX : Wc.drew = X at hMc hbx hRX hcall
      refine wp_region_noPanic ?_
      refine Until.wp_region_U (fun _ => True) (fun W => W.heap[w.heap.size + 1]? = some (.cells #[.int .i64 6, .int .i64 0, .string ⟨#[]⟩, .slice (some ⟨gn, 0, none⟩) (ns.length + 1) cN, .slice ao m ci] 25 (0, 0))) 9 (by kernel_rfl) ?_
      rw [hX]
      clear hX
      refine Until.wpU_pure (i := 0) (oi := { dst := some 89, op := Op.fieldAddr 25 (Operand.tmp 5) 4, type := 0, pos := "ref.go:465", after := #[], guard := none }) (v := .pointer (some ⟨w.heap.size + 1, 4, none⟩)) rfl (by kernel_rfl) (by kernel_rfl) (by kernel_rfl) (by kernel_rfl) (by kernel_rfl) (fun _ _ _ h => h) (trivial) (fun _ => hbx) (by rfl) (by intro w'; go_simp) ?_
      try simp only [Act.put, List.setIfInBounds_toArray, List.set_cons_zero, List.set_cons_succ]
      refine Until.wpU_load1 (i := 1) (oi := { dst := some 90, op := Op.load 23 (Operand.tmp 89), type := 23, pos := "ref.go:465", after := #[{ on := 0, ground := Ground.data }], guard := none }) (v := .slice ao m ci) rfl (by kernel_rfl) (by kernel_rfl) (by kernel_rfl) (by kernel_rfl) (by kernel_rfl) (by kernel_rfl) (fun _ _ _ h => h) (trivial) (hbx) (by rfl) (by intro w' hw'; obtain ⟨t0, t1, t2, t3, t4, -⟩ := row_cells hw'; go_simp) ?_
      try simp only [Act.put, List.setIfInBounds_toArray, List.set_cons_zero, List.set_cons_succ]
      refine Until.wpU_pure (i := 2) (oi := { dst := some 91, op := Op.move (Operand.tmp 0), type := 46, pos := "ref.go:465", after := #[], guard := none }) (v := .pointer (some ⟨r, 0, none⟩)) rfl (by kernel_rfl) (by kernel_rfl) (by kernel_rfl) (by kernel_rfl) (by kernel_rfl) (fun _ _ _ h => h) (trivial) (fun _ => hbx) (by rfl) (by intro w'; go_simp) ?_
      try simp only [Act.put, List.setIfInBounds_toArray, List.set_cons_zero, List.set_cons_succ]
      refine Until.wpU_pure (i := 3) (oi := { dst := some 92, op := Op.move (Operand.tmp 1), type := 3, pos := "ref.go:465", after := #[], guard := none }) (v := .int .i64 (d : Int)) rfl (by kernel_rfl) (by kernel_rfl) (by kernel_rfl) (by kernel_rfl) (by kernel_rfl) (fun _ _ _ h => h) (trivial) (fun _ => hbx) (by rfl) (by intro w'; go_simp) ?_
      try simp only [Act.put, List.setIfInBounds_toArray, List.set_cons_zero, List.set_cons_succ]
      refine Until.wpU_pure (i := 4) (oi := { dst := some 93, op := Op.binOp BinOp.add 3 (Operand.tmp 92) (Operand.const (Value.int IntKind.i64 1)) 3, type := 3, pos := "ref.go:465", after := #[{ on := 3, ground := Ground.data }], guard := none }) (v := .int .i64 ((d : Int) + 1)) rfl (by kernel_rfl) (by kernel_rfl) (by kernel_rfl) (by kernel_rfl) (by kernel_rfl) (fun _ _ _ h => h) (trivial) (fun _ => hbx) (by rfl) (by intro w'; go_simp) ?_
      try simp only [Act.put, List.setIfInBounds_toArray, List.set_cons_zero, List.set_cons_succ]
      refine Until.wpU_ready (rs := [5]) (by kernel_rfl) (by simp) ?_
      refine (Until.AllU.cons (o := { dst := some 94, op := Op.call { callee := Callee.value (Operand.func 24), args := #[Operand.tmp 91, Operand.tmp 93], argTypes := #[46, 3] }, type := 25, pos := "ref.go:465", after := #[{ on := 2, ground := Ground.data }, { on := 4, ground := Ground.data }], guard := none }) rfl (fun K hK => ?_) Until.AllU.nil)
      go_simp
      refine hcall.out.mono ?_
      rintro e3 w3 ⟨rfl, hR3, hF3⟩
      have hM3 := hid_e (hMc.out.next hF3)
      have b3 := hM3.out.box
      refine hK.out _ _ trivial (fun _ => b3) ?_
      clear hK K hcall hbx hRX
      try simp only [Act.put, List.setIfInBounds_toArray, List.set_cons_zero, List.set_cons_succ]
      refine Until.wpU_ready (rs := [6]) (by kernel_rfl) (by simp) ?_
      refine (Until.AllU.cons (o := { dst := some 95, op := Op.buildSlice 23 1 #[(0, Operand.tmp 94)], type := 23, pos := "ref.go:465", after := #[{ on := 5, ground := Ground.data }], guard := none }) rfl (fun K hK => ?_) Until.AllU.nil)
      go_simp
      have hM4 := hid_e (hM3.out.alloc (.cells #[.int .i64 0, .int .i64 0, .string ⟨#[]⟩, .slice none 0 0, .slice none 0 0] 25))
      have nb := heap_alloc_new w3 (.cells #[.int .i64 0, .int .i64 0, .string ⟨#[]⟩, .slice none 0 0, .slice none 0 0] 25)
      have hR4 := hid_e (hR3.keep (S := fun _ => False) ((FrP.refl _ w3).alloc (.cells #[.int .i64 0, .int .i64 0, .string ⟨#[]⟩, .slice none 0 0, .slice none 0 0] 25)) (fun e => e))
      have b4 := hM4.out.box
      refine hK.out _ _ trivial (fun _ => b4) ?_
      clear hK K
      try simp only [Act.put, List.setIfInBounds_toArray, List.set_cons_zero, List.set_cons_succ]
      generalize w3.alloc (.cells #[.int .i64 0, .int .i64 0, .string ⟨#[]⟩, .slice none 0 0, .slice none 0 0] 25) = Y4 at hM4  nb b4 hR4 ⊢
      replace nb := hid_e nb
      refine Until.wpU_ready (rs := [7]) (by kernel_rfl) (by simp) ?_
      refine (Until.AllU.cons (o := { dst := some 96, op := Op.call { callee := Callee.builtin Builtin.append, args := #[Operand.tmp 90, Operand.tmp 95], argTypes := #[23, 23] }, type := 23, pos := "ref.go:465", after := #[{ on := 1, ground := Ground.data }, { on := 6, ground := Ground.data }, { on := 5, ground := Ground.chain }], guard := none }) rfl (fun K hK => ?_) Until.AllU.nil)
      refine step_append_lies _ (by rfl) _ _ 23 (by rfl) (w.heap.size + 2) 25 i0 _ 5 80 Tryz.underlying23 hi hz0 hz1 hz2 (by rfl) (by omega) _ m xI (by rfl) hM4.out.items _ 1 1 [.int .i64 0, .int .i64 0, .string ⟨#[]⟩, .slice none 0 0, .slice none 0 0] (by rfl) (by rfl) (World.news_of_block nb.out) (five_one _ _ _ _ _ _ _ _ _) (by omega) (by unfold maxLen; omega) (by omega) hM4.out.size _ rfl ?_
      intro gi cI Y5 how hgr hat hlt
      have hM5 := hid_e (hM4.out.growI hgr hat how)
      have hne : ∀ g, (Value.slice ao m ci).ownBlock = some g → w.heap.size ≤ g := fun g e => by have := (ownsRow_ge hM4.out.items e).1; omega
      have hFr5 : FrP (fun j => w.heap.size ≤ j) Y4 Y5 := (FrP.refl _ Y4).grown hgr (fun g hg => .inl (hne g hg))
      have hR5 := hid_e (hR4.out.keep hFr5 (by omega))
      have b5 := hM5.out.box
      clear how hgr hat hlt hne hFr5
      refine hK.out _ _ trivial (fun _ => b5) ?_
      clear hK K
      try simp only [Act.put, List.setIfInBounds_toArray, List.set_cons_zero, List.set_cons_succ]
      refine Until.wpU_pure (i := 8) (oi := { dst := some 97, op := Op.fieldAddr 25 (Operand.tmp 5) 4, type := 0, pos := "ref.go:465", after := #[{ on := 0, ground := Ground.phase }, { on := 1, ground := Ground.phase }, { on := 2, ground := Ground.phase }, { on := 3, ground := Ground.phase }, { on := 4, ground := Ground.phase }, { on := 5, ground := Ground.phase }, { on := 6, ground := Ground.phase }, { on := 7, ground := Ground.phase }], guard := none }) (v := .pointer (some ⟨w.heap.size + 1, 4, none⟩)) rfl (by kernel_rfl) (by kernel_rfl) (by kernel_rfl) (by kernel_rfl) (by kernel_rfl) (fun _ _ _ h => h) (trivial) (fun _ => b5) (by rfl) (by intro w'; go_simp) ?_
      try simp only [Act.put, List.setIfInBounds_toArray, List.set_cons_zero, List.set_cons_succ]
      obtain ⟨-, -, -, -, z4, zf⟩ := row_cells b5
      have zf4 := zf 4
      clear zf
      refine Until.wpU_ready (rs := [9]) (by kernel_rfl) (by simp) ?_
      refine (Until.AllU.cons (o := { dst := none, op := Op.store 23 (Operand.tmp 97) (Operand.tmp 96), type := 0, pos := "ref.go:465", after := #[{ on := 8, ground := Ground.data }, { on := 7, ground := Ground.data }, { on := 7, ground := Ground.chain }, { on := 0, ground := Ground.phase }, { on := 1, ground := Ground.phase }, { on := 2, ground := Ground.phase }, { on := 3, ground := Ground.phase }, { on := 4, ground := Ground.phase }, { on := 5, ground := Ground.phase }, { on := 6, ground := Ground.phase }, { on := 7, ground := Ground.phase }], guard := none }) rfl (fun K hK => ?_) Until.AllU.nil)
      go_simp
      have hM6 := hid_e (hM5.out.setI (.slice (some ⟨gi, 0, none⟩) (m + 1) cI)).blind
      have hFr6 : FrP (fun j => w.heap.size ≤ j) Y5 (Y5.setCell ⟨w.heap.size + 1, 4, none⟩ (.slice (some ⟨gi, 0, none⟩) (m + 1) cI)) := (FrP.refl _ Y5).set _ _ (.inl (by show w.heap.size ≤ w.heap.size + 1; omega))
      have hR6 := hid_e (hR5.out.keep hFr6 (by omega))
      refine hK.out _ _ trivial (fun h => absurd h (by decide)) ?_
      clear hK K z4 zf4 b3 b4 b5 hFr6
      try simp only [Act.put, List.setIfInBounds_toArray, List.set_cons_zero, List.set_cons_succ]
      refine Until.wpU_done (by kernel_rfl) ?_ _
      refine NoPanic.normal ?_
      generalize Y5.setCell ⟨w.heap.size + 1, 4, none⟩ (.slice (some ⟨gi, 0, none⟩) (m + 1) cI) = Y6 at hM6 hR6 ⊢
      clear hM3 hM4 hM5 hR3 hR4 hR5 hF3
      have hco := hid_e (comma_dead r T 125 _ _ _ Y6 hR6.out he)
      rw [show ((125 : UInt8).toNat : Int) = 125 from rfl] at hco
      clear hR6
      go_wp2_with fail
      go_fit hco.out
      clear hco
      rintro e5 w5 ⟨rfl, hS7, hF7⟩
      have hM7 := hid_e (hM6.out.next hF7)
      have hVS : Hid (VSt w5 r T (.bad e p : Res J)) := ⟨by omega, _, hS7⟩
      clear hS7 hF7 hM6
      obtain ⟨z0, z1, z2, z3, z4, -⟩ := row_cells hM7.out.box
      obtain ⟨v0, v1, v2, v3, v4, vf⟩ := row_cells hM7.out.res
      have vf0 := vf 0; have vf1 := vf 1; have vf2 := vf 2; have vf3 := vf 3; have vf4 := vf 4
      clear vf
      go_wp2_with fail
      have hr5 := put5_cells hM7.out.res (.int .i64 6) (.int .i64 0) (.string ⟨#[]⟩) (.slice (some ⟨gn, 0, none⟩) (ns.length + 1) cN) (.slice (some ⟨gi, 0, none⟩) (m + 1) cI)
      have r0 := hr5 0; have r1 := hr5 1; have r2 := hr5 2; have r3 := hr5 3; have r4 := hr5 4
      clear hr5
      refine bodyPost_ret (v := .agg #[.int .i64 6, .int .i64 0, .string ⟨#[]⟩, .slice (some ⟨gn, 0, none⟩) (ns.length + 1) cN, .slice (some ⟨gi, 0, none⟩) (m + 1) cI]) (by simp [results, Tryz.results39, go_sem, r0, r1, r2, r3, r4]) rfl ?_
      rw [hRe.out]
      exact RValPost.mk (w := w) hrl (fun j q e => by cases e) hVS.out hM7.out.fr
    | ok sv nv =>
      rw [hX] at hS2 hKn htf
      obtain rfl : sn = sv := hsv.out sv nv hX
      have hf1 := htf.out.1
      have hf2 := htf.out.2
      replace hS2 : Hid (RT w2 r T (nv : Int) 0 0) := hS2
      clear htf hsv hX
      have hha := hid_e (has_code (.slice an ns.length cn) ns sn w2 (hid_e (reads_own hM2.out.names)))
      obtain ⟨y0, y1, y2, y3, -⟩ := hS2.out.cells
      obtain ⟨-, -, -, z3, -, -⟩ := row_cells hM2.out.box
      go_upto_if 52 with fail
      go_fit hha.out
      clear hha
      rintro e3 w3 ⟨rfl, qd, hw3⟩
      have hF3 : FrP (· = r) w2 w3 := by rw [hw3]; exact (FrP.refl _ w2).drewN qd
      have hM3 := hid_e (hM2.out.next hF3)
      have hR3 : Hid (RT w3 r T (nv : Int) 0 0) := by rw [hw3]; exact hS2.out
      clear hw3 hF3 hM2 hS2 y0 y1 y2 y3 z3
      cases hh : hasName ns sn with
      | true =>
        have hRe : Hid (R = .bad 16 q0) := by rw [Hid, ← hKn.out, show nameFin T ns q0 (.ok sn nv) = .bad 16 q0 from if_pos hh]; rfl
        have hfl := hid_e (fail_code r T (nv : Int) (q0 : Int) 16 w3 hR3.out)
        clear hKn hh
        go_upto_region 13 with fail
        go_fit hfl.out
        clear hfl
        rintro e4 wd ⟨rfl, hS4, hF4⟩
        have hMe := hid_e (hM3.out.next hF4).blind
        obtain ⟨e, p, zd, he, hRx, hRe2⟩ : ∃ (e p : Nat) (zd : Int), e ≠ 0 ∧ Hid (RT wd r T zd (e : Int) (p : Int)) ∧ Hid (R = .bad e p) := ⟨16, q0, (nv : Int), by decide, hS4, hRe⟩
        replace hRe := hRe2
        clear hRe2 hM3 hR3 hS4 hF4
        have hbl := hid_e (blanks_dead r T zd (p : Int) (e : Int) wd hRx.out (by omega))
        go_upto_region 14 with fail
        go_fit hbl.out
        clear hbl
        rintro e8 Wd ⟨rfl, hR3', hF3'⟩
        have hMd := hid_e (hMe.out.next hF3')
        have hRd := hid_e hR3'
        clear hR3' hF3' hMe hRx
        have hnd := hid_e (next_dead r T zd (p : Int) (e : Int) Wd hRd.out (by omega))
        go_upto_region 15 with fail
        go_fit hnd.out
        clear hnd
        rintro e8 W9 ⟨rfl, hw9⟩
        replace hw9 := hw9.symm
        subst hw9
        go_upto_region 17 with fail
        have hei : (e : Int) ≠ 0 := by omega
        obtain ⟨y0, y1, y2, y3, yf⟩ := hRd.out.cells
        have yf1 := yf 1
        clear yf
        obtain ⟨z9, hwz⟩ : ∃ z9, IntKind.i64.wrap (zd + 1) = z9 := ⟨_, rfl⟩
        have hR2 := hid_e (hRd.out.set1 z9)
        have hM2 := hid_e (hMd.out.next ((FrP.refl (· = r) Wd).set ⟨r, 1, none⟩ (.int .i64 z9) (.inl rfl)))
        go_upto_region 18 with fail
        clear y0 y1 y2 y3 yf1 hwz hMd
        generalize Wd.setCell ⟨r, 1, none⟩ (.int .i64 z9) = W2 at hR2 hM2 ⊢
        have hbl2 := hid_e (blanks_dead r T z9 (p : Int) (e : Int) W2 hR2.out hei)
        go_upto_region 19 with fail
        go_fit hbl2.out
        clear hbl2
        rintro e8 W3 ⟨rfl, hR3', hF3'⟩
        have hM3' := hid_e (hM2.out.next hF3')
        replace hR3' := hid_e hR3'
        clear hM2 hR2 hF3' hRd
        obtain ⟨-, -, -, z3, -, -⟩ := row_cells hM3'.out.box
        have hMa := hid_e (hM3'.out.alloc (.cells #[.string sn] 9))
        obtain ⟨-, -, -, z3a, -, -⟩ := row_cells hMa.out.box
        go_upto_region 19 with fail
        go_upto_region 20 with (at_builtin; refine wpList_append_lies _ rfl _ _ 22 rfl (w.heap.size + 2) 9 i9 _ 1 16 Tryz.underlying22 hi9 hy0 hy1 hy2 rfl (by decide) _ ns.length (strs ns) rfl hMa.out.names _ 1 1 [.string sn] rfl rfl (World.news_of_block (heap_alloc_new W3 (.cells #[.string sn] 9))) (str_one _) (by decide) (by unfold maxLen; omega) (by omega) hMa.out.size _ rfl ?_; intro gn cN Wn how hgr hat hlt; have hMb := hid_e (hMa.out.growN hgr hat how); obtain ⟨-, -, -, z3b, -, zfb⟩ := row_cells hMb.out.box; have zf3 := zfb 3; clear zfb; have hRb := hid_e (RT.keep (S := fun j => w.heap.size ≤ j) (RT.keep (S := fun _ => False) hR3'.out ((FrP.refl _ W3).alloc (.cells #[.string sn] 9)) (fun e => e)) ((FrP.refl _ _).grown hgr (fun g hg => .inl (by have := (ownsRow_ge hMa.out.names hg).1; omega))) (by omega)); replace hgr := hid_e hgr; clear hat hlt how)
        have hMc := hid_e (hMb.out.setN (.slice (some ⟨gn, 0, none⟩) (ns.length + 1) cN))
        have hRc := hid_e (RT.keep (S := fun j => w.heap.size ≤ j) hRb.out ((FrP.refl _ Wn).set ⟨w.heap.size + 1, 3, none⟩ (.slice (some ⟨gn, 0, none⟩) (ns.length + 1) cN) (.inl (by show w.heap.size ≤ w.heap.size + 1; omega))) (by omega))
        clear z3 z3a z3b zf3 hMa hMb hRb hgr hM3' hR3'
        generalize Wn.setCell ⟨w.heap.size + 1, 3, none⟩ (.slice (some ⟨gn, 0, none⟩) (ns.length + 1) cN) = Wc at hMc hRc ⊢
        replace he := hei
        clear hei
        go_upto_region 20 with fail
        replace hMc := hid_e hMc.out.drew
        have hbx := hMc.out.box
        have hRX := hid_e (RT.keep (S := fun _ => False) hRc.out ((FrP.refl _ Wc).drew) (fun e => e))
        have hcall := hid_e (value_dead r T ((d : Int) + 1) _ _ _ Wc.drew hRX.out he)
        generalize hX : Wc.drew = X at hMc hbx hRX hcall
        refine wp_region_noPanic ?_
        refine Until.wp_region_U (fun _ => True) (fun W => W.heap[w.heap.size + 1]? = some (.cells #[.int .i64 6, .int .i64 0, .string ⟨#[]⟩, .slice (some ⟨gn, 0, none⟩) (ns.length + 1) cN, .slice ao m ci] 25 (0, 0))) 9 (by kernel_rfl) ?_
        rw [hX]
        clear hX
        refine Until.wpU_pure (i := 0) (oi := { dst := some 89, op := Op.fieldAddr 25 (Operand.tmp 5) 4, type := 0, pos := "ref.go:465", after := #[], guard := none }) (v := .pointer (some ⟨w.heap.size + 1, 4, none⟩)) rfl (by kernel_rfl) (by kernel_rfl) (by kernel_rfl) (by kernel_rfl) (by kernel_rfl) (fun _ _ _ h => h) (trivial) (fun _ => hbx) (by rfl) (by intro w'; go_simp) ?_
        try simp only [Act.put, List.setIfInBounds_toArray, List.set_cons_zero, List.set_cons_succ]
        refine Until.wpU_load1 (i := 1) (oi := { dst := some 90, op := Op.load 23 (Operand.tmp 89), type := 23, pos := "ref.go:465", after := #[{ on := 0, ground := Ground.data }], guard := none }) (v := .slice ao m ci) rfl (by kernel_rfl) (by kernel_rfl) (by kernel_rfl) (by kernel_rfl) (by kernel_rfl) (by kernel_rfl) (fun _ _ _ h => h) (trivial) (hbx) (by rfl) (by intro w' hw'; obtain ⟨t0, t1, t2, t3, t4, -⟩ := row_cells hw'; go_simp) ?_
        try simp only [Act.put, List.setIfInBounds_toArray, List.set_cons_zero, List.set_cons_succ]
        refine Until.wpU_pure (i := 2) (oi := { dst := some 91, op := Op.move (Operand.tmp 0), type := 46, pos := "ref.go:465", after := #[], guard := none }) (v := .pointer (some ⟨r, 0, none⟩)) rfl (by kernel_rfl) (by kernel_rfl) (by kernel_rfl) (by kernel_rfl) (by kernel_rfl) (fun _ _ _ h => h) (trivial) (fun _ => hbx) (by rfl) (by intro w'; go_simp) ?_
        try simp only [Act.put, List.setIfInBounds_toArray, List.set_cons_zero, List.set_cons_succ]
        refine Until.wpU_pure (i := 3) (oi := { dst := some 92, op := Op.move (Operand.tmp 1), type := 3, pos := "ref.go:465", after := #[], guard := none }) (v := .int .i64 (d : Int)) rfl (by kernel_rfl) (by kernel_rfl) (by kernel_rfl) (by kernel_rfl) (by kernel_rfl) (fun _ _ _ h => h) (trivial) (fun _ => hbx) (by rfl) (by intro w'; go_simp) ?_
        try simp only [Act.put, List.setIfInBounds_toArray, List.set_cons_zero, List.set_cons_succ]
        refine Until.wpU_pure (i := 4) (oi := { dst := some 93, op := Op.binOp BinOp.add 3 (Operand.tmp 92) (Operand.const (Value.int IntKind.i64 1)) 3, type := 3, pos := "ref.go:465", after := #[{ on := 3, ground := Ground.data }], guard := none }) (v := .int .i64 ((d : Int) + 1)) rfl (by kernel_rfl) (by kernel_rfl) (by kernel_rfl) (by kernel_rfl) (by kernel_rfl) (fun _ _ _ h => h) (trivial) (fun _ => hbx) (by rfl) (by intro w'; go_simp) ?_
        try simp only [Act.put, List.setIfInBounds_toArray, List.set_cons_zero, List.set_cons_succ]
        refine Until.wpU_ready (rs := [5]) (by kernel_rfl) (by simp) ?_
        refine (Until.AllU.cons (o := { dst := some 94, op := Op.call { callee := Callee.value (Operand.func 24), args := #[Operand.tmp 91, Operand.tmp 93], argTypes := #[46, 3] }, type := 25, pos := "ref.go:465", after := #[{ on := 2, ground := Ground.data }, { on := 4, ground := Ground.data }], guard := none }) rfl (fun K hK => ?_) Until.AllU.nil)
        go_simp
        refine hcall.out.mono ?_
        rintro e3 w3 ⟨rfl, hR3, hF3⟩
        have hM3 := hid_e (hMc.out.next hF3)
        have b3 := hM3.out.box
        refine hK.out _ _ trivial (fun _ => b3) ?_
        clear hK K hcall hbx hRX
        try simp only [Act.put, List.setIfInBounds_toArray, List.set_cons_zero, List.set_cons_succ]
        refine Until.wpU_ready (rs := [6]) (by kernel_rfl) (by simp) ?_
        refine (Until.AllU.cons (o := { dst := some 95, op := Op.buildSlice 23 1 #[(0, Operand.tmp 94)], type := 23, pos := "ref.go:465", after := #[{ on := 5, ground := Ground.data }], guard := none }) rfl (fun K hK => ?_) Until.AllU.nil)
        go_simp
        have hM4 := hid_e (hM3.out.alloc (.cells #[.int .i64 0, .int .i64 0, .string ⟨#[]⟩, .slice none 0 0, .slice none 0 0] 25))
        have nb := heap_alloc_new w3 (.cells #[.int .i64 0, .int .i64 0, .string ⟨#[]⟩, .slice none 0 0, .slice none 0 0] 25)
        have hR4 := hid_e (hR3.keep (S := fun _ => False) ((FrP.refl _ w3).alloc (.cells #[.int .i64 0, .int .i64 0, .string ⟨#[]⟩, .slice none 0 0, .slice none 0 0] 25)) (fun e => e))
        have b4 := hM4.out.box
        refine hK.out _ _ trivial (fun _ => b4) ?_
        clear hK K
        try simp only [Act.put, List.setIfInBounds_toArray, List.set_cons_zero, List.set_cons_succ]
        generalize w3.alloc (.cells #[.int .i64 0, .int .i64 0, .string ⟨#[]⟩, .slice none 0 0, .slice none 0 0] 25) = Y4 at hM4  nb b4 hR4 ⊢
        replace nb := hid_e nb
        refine Until.wpU_ready (rs := [7]) (by kernel_rfl) (by simp) ?_
        refine (Until.AllU.cons (o := { dst := some 96, op := Op.call { callee := Callee.builtin Builtin.append, args := #[Operand.tmp 90, Operand.tmp 95], argTypes := #[23, 23] }, type := 23, pos := "ref.go:465", after := #[{ on := 1, ground := Ground.data }, { on := 6, ground := Ground.data }, { on := 5, ground := Ground.chain }], guard := none }) rfl (fun K hK => ?_) Until.AllU.nil)
        refine step_append_lies _ (by rfl) _ _ 23 (by rfl) (w.heap.size + 2) 25 i0 _ 5 80 Tryz.underlying23 hi hz0 hz1 hz2 (by rfl) (by omega) _ m xI (by rfl) hM4.out.items _ 1 1 [.int .i64 0, .int .i64 0, .string ⟨#[]⟩, .slice none 0 0, .slice none 0 0] (by rfl) (by rfl) (World.news_of_block nb.out) (five_one _ _ _ _ _ _ _ _ _) (by omega) (by unfold maxLen; omega) (by omega) hM4.out.size _ rfl ?_
        intro gi cI Y5 how hgr hat hlt
        have hM5 := hid_e (hM4.out.growI hgr hat how)
        have hne : ∀ g, (Value.slice ao m ci).ownBlock = some g → w.heap.size ≤ g := fun g e => by have := (ownsRow_ge hM4.out.items e).1; omega
        have hFr5 : FrP (fun j => w.heap.size ≤ j) Y4 Y5 := (FrP.refl _ Y4).grown hgr (fun g hg => .inl (hne g hg))
        have hR5 := hid_e (hR4.out.keep hFr5 (by omega))
        have b5 := hM5.out.box
        clear how hgr hat hlt hne hFr5
        refine hK.out _ _ trivial (fun _ => b5) ?_
        clear hK K
        try simp only [Act.put, List.setIfInBounds_toArray, List.set_cons_zero, List.set_cons_succ]
        refine Until.wpU_pure (i := 8) (oi := { dst := some 97, op := Op.fieldAddr 25 (Operand.tmp 5) 4, type := 0, pos := "ref.go:465", after := #[{ on := 0, ground := Ground.phase }, { on := 1, ground := Ground.phase }, { on := 2, ground := Ground.phase }, { on := 3, ground := Ground.phase }, { on := 4, ground := Ground.phase }, { on := 5, ground := Ground.phase }, { on := 6, ground := Ground.phase }, { on := 7, ground := Ground.phase }], guard := none }) (v := .pointer (some ⟨w.heap.size + 1, 4, none⟩)) rfl (by kernel_rfl) (by kernel_rfl) (by kernel_rfl) (by kernel_rfl) (by kernel_rfl) (fun _ _ _ h => h) (trivial) (fun _ => b5) (by rfl) (by intro w'; go_simp) ?_
        try simp only [Act.put, List.setIfInBounds_toArray, List.set_cons_zero, List.set_cons_succ]
        obtain ⟨-, -, -, -, z4, zf⟩ := row_cells b5
        have zf4 := zf 4
        clear zf
        refine Until.wpU_ready (rs := [9]) (by kernel_rfl) (by simp) ?_
        refine (Until.AllU.cons (o := { dst := none, op := Op.store 23 (Operand.tmp 97) (Operand.tmp 96), type := 0, pos := "ref.go:465", after := #[{ on := 8, ground := Ground.data }, { on := 7, ground := Ground.data }, { on := 7, ground := Ground.chain }, { on := 0, ground := Ground.phase }, { on := 1, ground := Ground.phase }, { on := 2, ground := Ground.phase }, { on := 3, ground := Ground.phase }, { on := 4, ground := Ground.phase }, { on := 5, ground := Ground.phase }, { on := 6, ground := Ground.phase }, { on := 7, ground := Ground.phase }], guard := none }) rfl (fun K hK => ?_) Until.AllU.nil)
        go_simp
        have hM6 := hid_e (hM5.out.setI (.slice (some ⟨gi, 0, none⟩) (m + 1) cI)).blind
        have hFr6 : FrP (fun j => w.heap.size ≤ j) Y5 (Y5.setCell ⟨w.heap.size + 1, 4, none⟩ (.slice (some ⟨gi, 0, none⟩) (m + 1) cI)) := (FrP.refl _ Y5).set _ _ (.inl (by show w.heap.size ≤ w.heap.size + 1; omega))
        have hR6 := hid_e (hR5.out.keep hFr6 (by omega))
        refine hK.out _ _ trivial (fun h => absurd h (by decide)) ?_
        clear hK K z4 zf4 b3 b4 b5 hFr6
        try simp only [Act.put, List.setIfInBounds_toArray, List.set_cons_zero, List.set_cons_succ]
        refine Until.wpU_done (by kernel_rfl) ?_ _
        refine NoPanic.normal ?_
        generalize Y5.setCell ⟨w.heap.size + 1, 4, none⟩ (.slice (some ⟨gi, 0, none⟩) (m + 1) cI) = Y6 at hM6 hR6 ⊢
        clear hM3 hM4 hM5 hR3 hR4 hR5 hF3
        have hco := hid_e (comma_dead r T 125 _ _ _ Y6 hR6.out he)
        rw [show ((125 : UInt8).toNat : Int) = 125 from rfl] at hco
        clear hR6
        go_wp2_with fail
        go_fit hco.out
        clear hco
        rintro e5 w5 ⟨rfl, hS7, hF7⟩
        have hM7 := hid_e (hM6.out.next hF7)
        have hVS : Hid (VSt w5 r T (.bad e p : Res J)) := ⟨by omega, _, hS7⟩
        clear hS7 hF7 hM6
        obtain ⟨z0, z1, z2, z3, z4, -⟩ := row_cells hM7.out.box
        obtain ⟨v0, v1, v2, v3, v4, vf⟩ := row_cells hM7.out.res
        have vf0 := vf 0; have vf1 := vf 1; have vf2 := vf 2; have vf3 := vf 3; have vf4 := vf 4
        clear vf
        go_wp2_with fail
        have hr5 := put5_cells hM7.out.res (.int .i64 6) (.int .i64 0) (.string ⟨#[]⟩) (.slice (some ⟨gn, 0, none⟩) (ns.length + 1) cN) (.slice (some ⟨gi, 0, none⟩) (m + 1) cI)
        have r0 := hr5 0; have r1 := hr5 1; have r2 := hr5 2; have r3 := hr5 3; have r4 := hr5 4
        clear hr5
        refine bodyPost_ret (v := .agg #[.int .i64 6, .int .i64 0, .string ⟨#[]⟩, .slice (some ⟨gn, 0, none⟩) (ns.length + 1) cN, .slice (some ⟨gi, 0, none⟩) (m + 1) cI]) (by simp [results, Tryz.results39, go_sem, r0, r1, r2, r3, r4]) rfl ?_
        rw [hRe.out]
        exact RValPost.mk (w := w) hrl (fun j q e => by cases e) hVS.out hM7.out.fr
      | false =>
        have hfin : nameFin T ns q0 (.ok sn nv) = (if skip T nv < T.size then if byteAt T (skip T nv) = 58 then .ok sn (skip T (skip T nv + 1)) else .bad 10 (skip T nv) else .bad 3 T.size) := by
          exact if_neg (by rw [hh]; decide)
        rw [hfin] at hKn
        clear hfin hh
        have hsk := skip_bd T nv hf2
        obtain ⟨t, ht⟩ : ∃ t, Hid (skip T nv = t) := ⟨_, hid_e rfl⟩
        rw [ht.out] at hsk hKn
        obtain ⟨ht1, ht2⟩ := hsk
        have hbl := hid_e (blanks_code r T nv w3 hT hR3.out hf2)
        rw [ht.out] at hbl
        go_upto_region 14 with fail
        go_fit hbl.out
        clear hbl
        rintro e4 w4 ⟨rfl, hS4, hF4⟩
        have hM4 := hid_e (hM3.out.next hF4)
        replace hS4 := hid_e hS4
        clear hM3 hR3 hF4
        by_cases hlt4 : t < T.size
        rotate_left
        · have e1 : t = T.size := by omega
          have hRe1 : Hid (R = .bad 3 T.size) := by rw [Hid, ← hKn.out, if_neg hlt4]; rfl
          have hnx := hid_e (next_short r T w4 (by rw [← e1]; exact hS4.out))
          clear e1
          go_upto_region 15 with fail
          go_fit hnx.out
          clear hnx
          rintro e5 Wd ⟨rfl, hS5, hF5⟩
          have hMd := hid_e (hM4.out.next hF5).blind
          obtain ⟨e, p, zd, he, hRd, hRe⟩ : ∃ (e p : Nat) (zd : Int), e ≠ 0 ∧ Hid (RT Wd r T zd (e : Int) (p : Int)) ∧ Hid (R = .bad e p) := ⟨3, T.size, _, by decide, hS5, hRe1⟩
          clear hRe1 hM4 hS4 hS5 hF5 hKn
          go_upto_region 17 with fail
          have hei : (e : Int) ≠ 0 := by omega
          obtain ⟨y0, y1, y2, y3, yf⟩ := hRd.out.cells
          have yf1 := yf 1
          clear yf
          obtain ⟨z9, hwz⟩ : ∃ z9, IntKind.i64.wrap (zd + 1) = z9 := ⟨_, rfl⟩
          have hR2 := hid_e (hRd.out.set1 z9)
          have hM2 := hid_e (hMd.out.next ((FrP.refl (· = r) Wd).set ⟨r, 1, none⟩ (.int .i64 z9) (.inl rfl)))
          go_upto_region 18 with fail
          clear y0 y1 y2 y3 yf1 hwz hMd
          generalize Wd.setCell ⟨r, 1, none⟩ (.int .i64 z9) = W2 at hR2 hM2 ⊢
          have hbl2 := hid_e (blanks_dead r T z9 (p : Int) (e : Int) W2 hR2.out hei)
          go_upto_region 19 with fail
          go_fit hbl2.out
          clear hbl2
          rintro e8 W3 ⟨rfl, hR3', hF3'⟩
          have hM3' := hid_e (hM2.out.next hF3')
          replace hR3' := hid_e hR3'
          clear hM2 hR2 hF3' hRd
          obtain ⟨-, -, -, z3, -, -⟩ := row_cells hM3'.out.box
          have hMa := hid_e (hM3'.out.alloc (.cells #[.string sn] 9))
          obtain ⟨-, -, -, z3a, -, -⟩ := row_cells hMa.out.box
          go_upto_region 19 with fail
          go_upto_region 20 with (at_builtin; refine wpList_append_lies _ rfl _ _ 22 rfl (w.heap.size + 2) 9 i9 _ 1 16 Tryz.underlying22 hi9 hy0 hy1 hy2 rfl (by decide) _ ns.length (strs ns) rfl hMa.out.names _ 1 1 [.string sn] rfl rfl (World.news_of_block (heap_alloc_new W3 (.cells #[.string sn] 9))) (str_one _) (by decide) (by unfold maxLen; omega) (by omega) hMa.out.size _ rfl ?_; intro gn cN Wn how hgr hat hlt; have hMb := hid_e (hMa.out.growN hgr hat how); obtain ⟨-, -, -, z3b, -, zfb⟩ := row_cells hMb.out.box; have zf3 := zfb 3; clear zfb; have hRb := hid_e (RT.keep (S := fun j => w.heap.size ≤ j) (RT.keep (S := fun _ => False) hR3'.out ((FrP.refl _ W3).alloc (.cells #[.string sn] 9)) (fun e => e)) ((FrP.refl _ _).grown hgr (fun g hg => .inl (by have := (ownsRow_ge hMa.out.names hg).1; omega))) (by omega)); replace hgr := hid_e hgr; clear hat hlt how)
          have hMc := hid_e (hMb.out.setN (.slice (some ⟨gn, 0, none⟩) (ns.length + 1) cN))
          have hRc := hid_e (RT.keep (S := fun j => w.heap.size ≤ j) hRb.out ((FrP.refl _ Wn).set ⟨w.heap.size + 1, 3, none⟩ (.slice (some ⟨gn, 0, none⟩) (ns.length + 1) cN) (.inl (by show w.heap.size ≤ w.heap.size + 1; omega))) (by omega))
          clear z3 z3a z3b zf3 hMa hMb hRb hgr hM3' hR3'
          generalize Wn.setCell ⟨w.heap.size + 1, 3, none⟩ (.slice (some ⟨gn, 0, none⟩) (ns.length + 1) cN) = Wc at hMc hRc ⊢
          replace he := hei
          clear hei
          go_upto_region 20 with fail
          replace hMc := hid_e hMc.out.drew
          have hbx := hMc.out.box
          have hRX := hid_e (RT.keep (S := fun _ => False) hRc.out ((FrP.refl _ Wc).drew) (fun e => e))
          have hcall := hid_e (value_dead r T ((d : Int) + 1) _ _ _ Wc.drew hRX.out he)
          generalize hX : Wc.drew = X at hMc hbx hRX hcall
          refine wp_region_noPanic ?_
          refine Until.wp_region_U (fun _ => True) (fun W => W.heap[w.heap.size + 1]? = some (.cells #[.int .i64 6, .int .i64 0, .string ⟨#[]⟩, .slice (some ⟨gn, 0, none⟩) (ns.length + 1) cN, .slice ao m ci] 25 (0, 0))) 9 (by kernel_rfl) ?_
          rw [hX]
          clear hX
          refine Until.wpU_pure (i := 0) (oi := { dst := some 89, op := Op.fieldAddr 25 (Operand.tmp 5) 4, type := 0, pos := "ref.go:465", after := #[], guard := none }) (v := .pointer (some ⟨w.heap.size + 1, 4, none⟩)) rfl (by kernel_rfl) (by kernel_rfl) (by kernel_rfl) (by kernel_rfl) (by kernel_rfl) (fun _ _ _ h => h) (trivial) (fun _ => hbx) (by rfl) (by intro w'; go_simp) ?_
          try simp only [Act.put, List.setIfInBounds_toArray, List.set_cons_zero, List.set_cons_succ]
          refine Until.wpU_load1 (i := 1) (oi := { dst := some 90, op := Op.load 23 (Operand.tmp 89), type := 23, pos := "ref.go:465", after := #[{ on := 0, ground := Ground.data }], guard := none }) (v := .slice ao m ci) rfl (by kernel_rfl) (by kernel_rfl) (by kernel_rfl) (by kernel_rfl) (by kernel_rfl) (by kernel_rfl) (fun _ _ _ h => h) (trivial) (hbx) (by rfl) (by intro w' hw'; obtain ⟨t0, t1, t2, t3, t4, -⟩ := row_cells hw'; go_simp) ?_
          try simp only [Act.put, List.setIfInBounds_toArray, List.set_cons_zero, List.set_cons_succ]
          refine Until.wpU_pure (i := 2) (oi := { dst := some 91, op := Op.move (Operand.tmp 0), type := 46, pos := "ref.go:465", after := #[], guard := none }) (v := .pointer (some ⟨r, 0, none⟩)) rfl (by kernel_rfl) (by kernel_rfl) (by kernel_rfl) (by kernel_rfl) (by kernel_rfl) (fun _ _ _ h => h) (trivial) (fun _ => hbx) (by rfl) (by intro w'; go_simp) ?_
          try simp only [Act.put, List.setIfInBounds_toArray, List.set_cons_zero, List.set_cons_succ]
          refine Until.wpU_pure (i := 3) (oi := { dst := some 92, op := Op.move (Operand.tmp 1), type := 3, pos := "ref.go:465", after := #[], guard := none }) (v := .int .i64 (d : Int)) rfl (by kernel_rfl) (by kernel_rfl) (by kernel_rfl) (by kernel_rfl) (by kernel_rfl) (fun _ _ _ h => h) (trivial) (fun _ => hbx) (by rfl) (by intro w'; go_simp) ?_
          try simp only [Act.put, List.setIfInBounds_toArray, List.set_cons_zero, List.set_cons_succ]
          refine Until.wpU_pure (i := 4) (oi := { dst := some 93, op := Op.binOp BinOp.add 3 (Operand.tmp 92) (Operand.const (Value.int IntKind.i64 1)) 3, type := 3, pos := "ref.go:465", after := #[{ on := 3, ground := Ground.data }], guard := none }) (v := .int .i64 ((d : Int) + 1)) rfl (by kernel_rfl) (by kernel_rfl) (by kernel_rfl) (by kernel_rfl) (by kernel_rfl) (fun _ _ _ h => h) (trivial) (fun _ => hbx) (by rfl) (by intro w'; go_simp) ?_
          try simp only [Act.put, List.setIfInBounds_toArray, List.set_cons_zero, List.set_cons_succ]
          refine Until.wpU_ready (rs := [5]) (by kernel_rfl) (by simp) ?_
          refine (Until.AllU.cons (o := { dst := some 94, op := Op.call { callee := Callee.value (Operand.func 24), args := #[Operand.tmp 91, Operand.tmp 93], argTypes := #[46, 3] }, type := 25, pos := "ref.go:465", after := #[{ on := 2, ground := Ground.data }, { on := 4, ground := Ground.data }], guard := none }) rfl (fun K hK => ?_) Until.AllU.nil)
          go_simp
          refine hcall.out.mono ?_
          rintro e3 w3 ⟨rfl, hR3, hF3⟩
          have hM3 := hid_e (hMc.out.next hF3)
          have b3 := hM3.out.box
          refine hK.out _ _ trivial (fun _ => b3) ?_
          clear hK K hcall hbx hRX
          try simp only [Act.put, List.setIfInBounds_toArray, List.set_cons_zero, List.set_cons_succ]
          refine Until.wpU_ready (rs := [6]) (by kernel_rfl) (by simp) ?_
          refine (Until.AllU.cons (o := { dst := some 95, op := Op.buildSlice 23 1 #[(0, Operand.tmp 94)], type := 23, pos := "ref.go:465", after := #[{ on := 5, ground := Ground.data }], guard := none }) rfl (fun K hK => ?_) Until.AllU.nil)
          go_simp
          have hM4 := hid_e (hM3.out.alloc (.cells #[.int .i64 0, .int .i64 0, .string ⟨#[]⟩, .slice none 0 0, .slice none 0 0] 25))
          have nb := heap_alloc_new w3 (.cells #[.int .i64 0, .int .i64 0, .string ⟨#[]⟩, .slice none 0 0, .slice none 0 0] 25)
          have hR4 := hid_e (hR3.keep (S := fun _ => False) ((FrP.refl _ w3).alloc (.cells #[.int .i64 0, .int .i64 0, .string ⟨#[]⟩, .slice none 0 0, .slice none 0 0] 25)) (fun e => e))
          have b4 := hM4.out.box
          refine hK.out _ _ trivial (fun _ => b4) ?_
          clear hK K
          try simp only [Act.put, List.setIfInBounds_toArray, List.set_cons_zero, List.set_cons_succ]
          generalize w3.alloc (.cells #[.int .i64 0, .int .i64 0, .string ⟨#[]⟩, .slice none 0 0, .slice none 0 0] 25) = Y4 at hM4  nb b4 hR4 ⊢
          replace nb := hid_e nb
          refine Until.wpU_ready (rs := [7]) (by kernel_rfl) (by simp) ?_
          refine (Until.AllU.cons (o := { dst := some 96, op := Op.call { callee := Callee.builtin Builtin.append, args := #[Operand.tmp 90, Operand.tmp 95], argTypes := #[23, 23] }, type := 23, pos := "ref.go:465", after := #[{ on := 1, ground := Ground.data }, { on := 6, ground := Ground.data }, { on := 5, ground := Ground.chain }], guard := none }) rfl (fun K hK => ?_) Until.AllU.nil)
          refine step_append_lies _ (by rfl) _ _ 23 (by rfl) (w.heap.size + 2) 25 i0 _ 5 80 Tryz.underlying23 hi hz0 hz1 hz2 (by rfl) (by omega) _ m xI (by rfl) hM4.out.items _ 1 1 [.int .i64 0, .int .i64 0, .string ⟨#[]⟩, .slice none 0 0, .slice none 0 0] (by rfl) (by rfl) (World.news_of_block nb.out) (five_one _ _ _ _ _ _ _ _ _) (by omega) (by unfold maxLen; omega) (by omega) hM4.out.size _ rfl ?_
          intro gi cI Y5 how hgr hat hlt
          have hM5 := hid_e (hM4.out.growI hgr hat how)
          have hne : ∀ g, (Value.slice ao m ci).ownBlock = some g → w.heap.size ≤ g := fun g e => by have := (ownsRow_ge hM4.out.items e).1; omega
          have hFr5 : FrP (fun j => w.heap.size ≤ j) Y4 Y5 := (FrP.refl _ Y4).grown hgr (fun g hg => .inl (hne g hg))
          have hR5 := hid_e (hR4.out.keep hFr5 (by omega))
          have b5 := hM5.out.box
          clear how hgr hat hlt hne hFr5
          refine hK.out _ _ trivial (fun _ => b5) ?_
          clear hK K
          try simp only [Act.put, List.setIfInBounds_toArray, List.set_cons_zero, List.set_cons_succ]
          refine Until.wpU_pure (i := 8) (oi := { dst := some 97, op := Op.fieldAddr 25 (Operand.tmp 5) 4, type := 0, pos := "ref.go:465", after := #[{ on := 0, ground := Ground.phase }, { on := 1, ground := Ground.phase }, { on := 2, ground := Ground.phase }, { on := 3, ground := Ground.phase }, { on := 4, ground := Ground.phase }, { on := 5, ground := Ground.phase }, { on := 6, ground := Ground.phase }, { on := 7, ground := Ground.phase }], guard := none }) (v := .pointer (some ⟨w.heap.size + 1, 4, none⟩)) rfl (by kernel_rfl) (by kernel_rfl) (by kernel_rfl) (by kernel_rfl) (by kernel_rfl) (fun _ _ _ h => h) (trivial) (fun _ => b5) (by rfl) (by intro w'; go_simp) ?_
          try simp only [Act.put, List.setIfInBounds_toArray, List.set_cons_zero, List.set_cons_succ]
          obtain ⟨-, -, -, -, z4, zf⟩ := row_cells b5
          have zf4 := zf 4
          clear zf
          refine Until.wpU_ready (rs := [9]) (by kernel_rfl) (by simp) ?_
          refine (Until.AllU.cons (o := { dst := none, op := Op.store 23 (Operand.tmp 97) (Operand.tmp 96), type := 0, pos := "ref.go:465", after := #[{ on := 8, ground := Ground.data }, { on := 7, ground := Ground.data }, { on := 7, ground := Ground.chain }, { on := 0, ground := Ground.phase }, { on := 1, ground := Ground.phase }, { on := 2, ground := Ground.phase }, { on := 3, ground := Ground.phase }, { on := 4, ground := Ground.phase }, { on := 5, ground := Ground.phase }, { on := 6, ground := Ground.phase }, { on := 7, ground := Ground.phase }], guard := none }) rfl (fun K hK => ?_) Until.AllU.nil)
          go_simp
          have hM6 := hid_e (hM5.out.setI (.slice (some ⟨gi, 0, none⟩) (m + 1) cI)).blind
          have hFr6 : FrP (fun j => w.heap.size ≤ j) Y5 (Y5.setCell ⟨w.heap.size + 1, 4, none⟩ (.slice (some ⟨gi, 0, none⟩) (m + 1) cI)) := (FrP.refl _ Y5).set _ _ (.inl (by show w.heap.size ≤ w.heap.size + 1; omega))
          have hR6 := hid_e (hR5.out.keep hFr6 (by omega))
          refine hK.out _ _ trivial (fun h => absurd h (by decide)) ?_
          clear hK K z4 zf4 b3 b4 b5 hFr6
          try simp only [Act.put, List.setIfInBounds_toArray, List.set_cons_zero, List.set_cons_succ]
          refine Until.wpU_done (by kernel_rfl) ?_ _
          refine NoPanic.normal ?_
          generalize Y5.setCell ⟨w.heap.size + 1, 4, none⟩ (.slice (some ⟨gi, 0, none⟩) (m + 1) cI) = Y6 at hM6 hR6 ⊢
          clear hM3 hM4 hM5 hR3 hR4 hR5 hF3
          have hco := hid_e (comma_dead r T 125 _ _ _ Y6 hR6.out he)
          rw [show ((125 : UInt8).toNat : Int) = 125 from rfl] at hco
          clear hR6
          go_wp2_with fail
          go_fit hco.out
          clear hco
          rintro e5 w5 ⟨rfl, hS7, hF7⟩
          have hM7 := hid_e (hM6.out.next hF7)
          have hVS : Hid (VSt w5 r T (.bad e p : Res J)) := ⟨by omega, _, hS7⟩
          clear hS7 hF7 hM6
          obtain ⟨z0, z1, z2, z3, z4, -⟩ := row_cells hM7.out.box
          obtain ⟨v0, v1, v2, v3, v4, vf⟩ := row_cells hM7.out.res
          have vf0 := vf 0; have vf1 := vf 1; have vf2 := vf 2; have vf3 := vf 3; have vf4 := vf 4
          clear vf
          go_wp2_with fail
          have hr5 := put5_cells hM7.out.res (.int .i64 6) (.int .i64 0) (.string ⟨#[]⟩) (.slice (some ⟨gn, 0, none⟩) (ns.length + 1) cN) (.slice (some ⟨gi, 0, none⟩) (m + 1) cI)
          have r0 := hr5 0; have r1 := hr5 1; have r2 := hr5 2; have r3 := hr5 3; have r4 := hr5 4
          clear hr5
          refine bodyPost_ret (v := .agg #[.int .i64 6, .int .i64 0, .string ⟨#[]⟩, .slice (some ⟨gn, 0, none⟩) (ns.length + 1) cN, .slice (some ⟨gi, 0, none⟩) (m + 1) cI]) (by simp [results, Tryz.results39, go_sem, r0, r1, r2, r3, r4]) rfl ?_
          rw [hRe.out]
          exact RValPost.mk (w := w) hrl (fun j q e => by cases e) hVS.out hM7.out.fr
        have hnx := hid_e (next_byte r T t w4 hS4.out hlt4)
        go_upto_region 15 with fail
        go_fit hnx.out
        clear hnx
        rintro e5 w5 ⟨rfl, hS5, hF5⟩
        have hM5 := hid_e (hM4.out.next hF5)
        replace hS5 := hid_e hS5
        clear hM4 hS4 hF5
        by_cases hb5 : byteAt T t = 58
        rotate_left
        · have hRe1 : Hid (R = .bad 10 t) := by rw [Hid, ← hKn.out, if_pos hlt4, if_neg hb5]; rfl
          have c1 := byte_ne hb5
          obtain ⟨z, hz⟩ : ∃ z : Int, Hid (((byteAt T t).toNat : Int) = z) := ⟨_, hid_e rfl⟩
          rw [hz.out] at c1
          rw [hz.out]
          rw [show ((58 : UInt8).toNat : Int) = 58 from rfl] at c1
          have c2 : (z != 58) = true := by rw [bne, c1]; rfl
          clear c1 hb5
          have hfl := hid_e (fail_code r T (t : Int) (t : Int) 10 w5 hS5.out)
          obtain ⟨y0, y1, y2, y3, -⟩ := hS5.out.cells
          go_upto_region 17 with fail
          go_fit hfl.out
          clear hfl y0 y1 y2 y3
          rintro e6 Wd ⟨rfl, hS6, hF6⟩
          have hMd := hid_e (hM5.out.next hF6).blind
          obtain ⟨e, p, zd, he, hRd, hRe⟩ : ∃ (e p : Nat) (zd : Int), e ≠ 0 ∧ Hid (RT Wd r T zd (e : Int) (p : Int)) ∧ Hid (R = .bad e p) := ⟨10, t, _, by decide, hS6, hRe1⟩
          clear hRe1 hM5 hS5 hS6 hF6 hKn c2
          have hei : (e : Int) ≠ 0 := by omega
          obtain ⟨y0, y1, y2, y3, yf⟩ := hRd.out.cells
          have yf1 := yf 1
          clear yf
          obtain ⟨z9, hwz⟩ : ∃ z9, IntKind.i64.wrap (zd + 1) = z9 := ⟨_, rfl⟩
          have hR2 := hid_e (hRd.out.set1 z9)
          have hM2 := hid_e (hMd.out.next ((FrP.refl (· = r) Wd).set ⟨r, 1, none⟩ (.int .i64 z9) (.inl rfl)))
          go_upto_region 18 with fail
          clear y0 y1 y2 y3 yf1 hwz hMd
          generalize Wd.setCell ⟨r, 1, none⟩ (.int .i64 z9) = W2 at hR2 hM2 ⊢
          have hbl2 := hid_e (blanks_dead r T z9 (p : Int) (e : Int) W2 hR2.out hei)
          go_upto_region 19 with fail
          go_fit hbl2.out
          clear hbl2
          rintro e8 W3 ⟨rfl, hR3', hF3'⟩
          have hM3' := hid_e (hM2.out.next hF3')
          replace hR3' := hid_e hR3'
          clear hM2 hR2 hF3' hRd
          obtain ⟨-, -, -, z3, -, -⟩ := row_cells hM3'.out.box
          have hMa := hid_e (hM3'.out.alloc (.cells #[.string sn] 9))
          obtain ⟨-, -, -, z3a, -, -⟩ := row_cells hMa.out.box
          go_upto_region 19 with fail
          go_upto_region 20 with (at_builtin; refine wpList_append_lies _ rfl _ _ 22 rfl (w.heap.size + 2) 9 i9 _ 1 16 Tryz.underlying22 hi9 hy0 hy1 hy2 rfl (by decide) _ ns.length (strs ns) rfl hMa.out.names _ 1 1 [.string sn] rfl rfl (World.news_of_block (heap_alloc_new W3 (.cells #[.string sn] 9))) (str_one _) (by decide) (by unfold maxLen; omega) (by omega) hMa.out.size _ rfl ?_; intro gn cN Wn how hgr hat hlt; have hMb := hid_e (hMa.out.growN hgr hat how); obtain ⟨-, -, -, z3b, -, zfb⟩ := row_cells hMb.out.box; have zf3 := zfb 3; clear zfb; have hRb := hid_e (RT.keep (S := fun j => w.heap.size ≤ j) (RT.keep (S := fun _ => False) hR3'.out ((FrP.refl _ W3).alloc (.cells #[.string sn] 9)) (fun e => e)) ((FrP.refl _ _).grown hgr (fun g hg => .inl (by have := (ownsRow_ge hMa.out.names hg).1; omega))) (by omega)); replace hgr := hid_e hgr; clear hat hlt how)
          have hMc := hid_e (hMb.out.setN (.slice (some ⟨gn, 0, none⟩) (ns.length + 1) cN))
          have hRc := hid_e (RT.keep (S := fun j => w.heap.size ≤ j) hRb.out ((FrP.refl _ Wn).set ⟨w.heap.size + 1, 3, none⟩ (.slice (some ⟨gn, 0, none⟩) (ns.length + 1) cN) (.inl (by show w.heap.size ≤ w.heap.size + 1; omega))) (by omega))
          clear z3 z3a z3b zf3 hMa hMb hRb hgr hM3' hR3'
          generalize Wn.setCell ⟨w.heap.size + 1, 3, none⟩ (.slice (some ⟨gn, 0, none⟩) (ns.length + 1) cN) = Wc at hMc hRc ⊢
          replace he := hei
          clear hei
          go_upto_region 20 with fail
          replace hMc := hid_e hMc.out.drew
          have hbx := hMc.out.box
          have hRX := hid_e (RT.keep (S := fun _ => False) hRc.out ((FrP.refl _ Wc).drew) (fun e => e))
          have hcall := hid_e (value_dead r T ((d : Int) + 1) _ _ _ Wc.drew hRX.out he)
          generalize hX : Wc.drew = X at hMc hbx hRX hcall
          refine wp_region_noPanic ?_
          refine Until.wp_region_U (fun _ => True) (fun W => W.heap[w.heap.size + 1]? = some (.cells #[.int .i64 6, .int .i64 0, .string ⟨#[]⟩, .slice (some ⟨gn, 0, none⟩) (ns.length + 1) cN, .slice ao m ci] 25 (0, 0))) 9 (by kernel_rfl) ?_
          rw [hX]
          clear hX
          refine Until.wpU_pure (i := 0) (oi := { dst := some 89, op := Op.fieldAddr 25 (Operand.tmp 5) 4, type := 0, pos := "ref.go:465", after := #[], guard := none }) (v := .pointer (some ⟨w.heap.size + 1, 4, none⟩)) rfl (by kernel_rfl) (by kernel_rfl) (by kernel_rfl) (by kernel_rfl) (by kernel_rfl) (fun _ _ _ h => h) (trivial) (fun _ => hbx) (by rfl) (by intro w'; go_simp) ?_
          try simp only [Act.put, List.setIfInBounds_toArray, List.set_cons_zero, List.set_cons_succ]
          refine Until.wpU_load1 (i := 1) (oi := { dst := some 90, op := Op.load 23 (Operand.tmp 89), type := 23, pos := "ref.go:465", after := #[{ on := 0, ground := Ground.data }], guard := none }) (v := .slice ao m ci) rfl (by kernel_rfl) (by kernel_rfl) (by kernel_rfl) (by kernel_rfl) (by kernel_rfl) (by kernel_rfl) (fun _ _ _ h => h) (trivial) (hbx) (by rfl) (by intro w' hw'; obtain ⟨t0, t1, t2, t3, t4, -⟩ := row_cells hw'; go_simp) ?_
          try simp only [Act.put, List.setIfInBounds_toArray, List.set_cons_zero, List.set_cons_succ]
          refine Until.wpU_pure (i := 2) (oi := { dst := some 91, op := Op.move (Operand.tmp 0), type := 46, pos := "ref.go:465", after := #[], guard := none }) (v := .pointer (some ⟨r, 0, none⟩)) rfl (by kernel_rfl) (by kernel_rfl) (by kernel_rfl) (by kernel_rfl) (by kernel_rfl) (fun _ _ _ h => h) (trivial) (fun _ => hbx) (by rfl) (by intro w'; go_simp) ?_
          try simp only [Act.put, List.setIfInBounds_toArray, List.set_cons_zero, List.set_cons_succ]
          refine Until.wpU_pure (i := 3) (oi := { dst := some 92, op := Op.move (Operand.tmp 1), type := 3, pos := "ref.go:465", after := #[], guard := none }) (v := .int .i64 (d : Int)) rfl (by kernel_rfl) (by kernel_rfl) (by kernel_rfl) (by kernel_rfl) (by kernel_rfl) (fun _ _ _ h => h) (trivial) (fun _ => hbx) (by rfl) (by intro w'; go_simp) ?_
          try simp only [Act.put, List.setIfInBounds_toArray, List.set_cons_zero, List.set_cons_succ]
          refine Until.wpU_pure (i := 4) (oi := { dst := some 93, op := Op.binOp BinOp.add 3 (Operand.tmp 92) (Operand.const (Value.int IntKind.i64 1)) 3, type := 3, pos := "ref.go:465", after := #[{ on := 3, ground := Ground.data }], guard := none }) (v := .int .i64 ((d : Int) + 1)) rfl (by kernel_rfl) (by kernel_rfl) (by kernel_rfl) (by kernel_rfl) (by kernel_rfl) (fun _ _ _ h => h) (trivial) (fun _ => hbx) (by rfl) (by intro w'; go_simp) ?_
          try simp only [Act.put, List.setIfInBounds_toArray, List.set_cons_zero, List.set_cons_succ]
          refine Until.wpU_ready (rs := [5]) (by kernel_rfl) (by simp) ?_
          refine (Until.AllU.cons (o := { dst := some 94, op := Op.call { callee := Callee.value (Operand.func 24), args := #[Operand.tmp 91, Operand.tmp 93], argTypes := #[46, 3] }, type := 25, pos := "ref.go:465", after := #[{ on := 2, ground := Ground.data }, { on := 4, ground := Ground.data }], guard := none }) rfl (fun K hK => ?_) Until.AllU.nil)
          go_simp
          refine hcall.out.mono ?_
          rintro e3 w3 ⟨rfl, hR3, hF3⟩
          have hM3 := hid_e (hMc.out.next hF3)
          have b3 := hM3.out.box
          refine hK.out _ _ trivial (fun _ => b3) ?_
          clear hK K hcall hbx hRX
          try simp only [Act.put, List.setIfInBounds_toArray, List.set_cons_zero, List.set_cons_succ]
          refine Until.wpU_ready (rs := [6]) (by kernel_rfl) (by simp) ?_
          refine (Until.AllU.cons (o := { dst := some 95, op := Op.buildSlice 23 1 #[(0, Operand.tmp 94)], type := 23, pos := "ref.go:465", after := #[{ on := 5, ground := Ground.data }], guard := none }) rfl (fun K hK => ?_) Until.AllU.nil)
          go_simp
          have hM4 := hid_e (hM3.out.alloc (.cells #[.int .i64 0, .int .i64 0, .string ⟨#[]⟩, .slice none 0 0, .slice none 0 0] 25))
          have nb := heap_alloc_new w3 (.cells #[.int .i64 0, .int .i64 0, .string ⟨#[]⟩, .slice none 0 0, .slice none 0 0] 25)
          have hR4 := hid_e (hR3.keep (S := fun _ => False) ((FrP.refl _ w3).alloc (.cells #[.int .i64 0, .int .i64 0, .string ⟨#[]⟩, .slice none 0 0, .slice none 0 0] 25)) (fun e => e))
          have b4 := hM4.out.box
          refine hK.out _ _ trivial (fun _ => b4) ?_
          clear hK K
          try simp only [Act.put, List.setIfInBounds_toArray, List.set_cons_zero, List.set_cons_succ]
          generalize w3.alloc (.cells #[.int .i64 0, .int .i64 0, .string ⟨#[]⟩, .slice none 0 0, .slice none 0 0] 25) = Y4 at hM4  nb b4 hR4 ⊢
          replace nb := hid_e nb
          refine Until.wpU_ready (rs := [7]) (by kernel_rfl) (by simp) ?_
          refine (Until.AllU.cons (o := { dst := some 96, op := Op.call { callee := Callee.builtin Builtin.append, args := #[Operand.tmp 90, Operand.tmp 95], argTypes := #[23, 23] }, type := 23, pos := "ref.go:465", after := #[{ on := 1, ground := Ground.data }, { on := 6, ground := Ground.data }, { on := 5, ground := Ground.chain }], guard := none }) rfl (fun K hK => ?_) Until.AllU.nil)
          refine step_append_lies _ (by rfl) _ _ 23 (by rfl) (w.heap.size + 2) 25 i0 _ 5 80 Tryz.underlying23 hi hz0 hz1 hz2 (by rfl) (by omega) _ m xI (by rfl) hM4.out.items _ 1 1 [.int .i64 0, .int .i64 0, .string ⟨#[]⟩, .slice none 0 0, .slice none 0 0] (by rfl) (by rfl) (World.news_of_block nb.out) (five_one _ _ _ _ _ _ _ _ _) (by omega) (by unfold maxLen; omega) (by omega) hM4.out.size _ rfl ?_
          intro gi cI Y5 how hgr hat hlt
          have hM5 := hid_e (hM4.out.growI hgr hat how)
          have hne : ∀ g, (Value.slice ao m ci).ownBlock = some g → w.heap.size ≤ g := fun g e => by have := (ownsRow_ge hM4.out.items e).1; omega
          have hFr5 : FrP (fun j => w.heap.size ≤ j) Y4 Y5 := (FrP.refl _ Y4).grown hgr (fun g hg => .inl (hne g hg))
          have hR5 := hid_e (hR4.out.keep hFr5 (by omega))
          have b5 := hM5.out.box
          clear how hgr hat hlt hne hFr5
          refine hK.out _ _ trivial (fun _ => b5) ?_
          clear hK K
          try simp only [Act.put, List.setIfInBounds_toArray, List.set_cons_zero, List.set_cons_succ]
          refine Until.wpU_pure (i := 8) (oi := { dst := some 97, op := Op.fieldAddr 25 (Operand.tmp 5) 4, type := 0, pos := "ref.go:465", after := #[{ on := 0, ground := Ground.phase }, { on := 1, ground := Ground.phase }, { on := 2, ground := Ground.phase }, { on := 3, ground := Ground.phase }, { on := 4, ground := Ground.phase }, { on := 5, ground := Ground.phase }, { on := 6, ground := Ground.phase }, { on := 7, ground := Ground.phase }], guard := none }) (v := .pointer (some ⟨w.heap.size + 1, 4, none⟩)) rfl (by kernel_rfl) (by kernel_rfl) (by kernel_rfl) (by kernel_rfl) (by kernel_rfl) (fun _ _ _ h => h) (trivial) (fun _ => b5) (by rfl) (by intro w'; go_simp) ?_
          try simp only [Act.put, List.setIfInBounds_toArray, List.set_cons_zero, List.set_cons_succ]
          obtain ⟨-, -, -, -, z4, zf⟩ := row_cells b5
          have zf4 := zf 4
          clear zf
          refine Until.wpU_ready (rs := [9]) (by kernel_rfl) (by simp) ?_
          refine (Until.AllU.cons (o := { dst := none, op := Op.store 23 (Operand.tmp 97) (Operand.tmp 96), type := 0, pos := "ref.go:465", after := #[{ on := 8, ground := Ground.data }, { on := 7, ground := Ground.data }, { on := 7, ground := Ground.chain }, { on := 0, ground := Ground.phase }, { on := 1, ground := Ground.phase }, { on := 2, ground := Ground.phase }, { on := 3, ground := Ground.phase }, { on := 4, ground := Ground.phase }, { on := 5, ground := Ground.phase }, { on := 6, ground := Ground.phase }, { on := 7, ground := Ground.phase }], guard := none }) rfl (fun K hK => ?_) Until.AllU.nil)
          go_simp
          have hM6 := hid_e (hM5.out.setI (.slice (some ⟨gi, 0, none⟩) (m + 1) cI)).blind
          have hFr6 : FrP (fun j => w.heap.size ≤ j) Y5 (Y5.setCell ⟨w.heap.size + 1, 4, none⟩ (.slice (some ⟨gi, 0, none⟩) (m + 1) cI)) := (FrP.refl _ Y5).set _ _ (.inl (by show w.heap.size ≤ w.heap.size + 1; omega))
          have hR6 := hid_e (hR5.out.keep hFr6 (by omega))
          refine hK.out _ _ trivial (fun h => absurd h (by decide)) ?_
          clear hK K z4 zf4 b3 b4 b5 hFr6
          try simp only [Act.put, List.setIfInBounds_toArray, List.set_cons_zero, List.set_cons_succ]
          refine Until.wpU_done (by kernel_rfl) ?_ _
          refine NoPanic.normal ?_
          generalize Y5.setCell ⟨w.heap.size + 1, 4, none⟩ (.slice (some ⟨gi, 0, none⟩) (m + 1) cI) = Y6 at hM6 hR6 ⊢
          clear hM3 hM4 hM5 hR3 hR4 hR5 hF3
          have hco := hid_e (comma_dead r T 125 _ _ _ Y6 hR6.out he)
          rw [show ((125 : UInt8).toNat : Int) = 125 from rfl] at hco
          clear hR6
          go_wp2_with fail
          go_fit hco.out
          clear hco
          rintro e5 w5 ⟨rfl, hS7, hF7⟩
          have hM7 := hid_e (hM6.out.next hF7)
          have hVS : Hid (VSt w5 r T (.bad e p : Res J)) := ⟨by omega, _, hS7⟩
          clear hS7 hF7 hM6
          obtain ⟨z0, z1, z2, z3, z4, -⟩ := row_cells hM7.out.box
          obtain ⟨v0, v1, v2, v3, v4, vf⟩ := row_cells hM7.out.res
          have vf0 := vf 0; have vf1 := vf 1; have vf2 := vf 2; have vf3 := vf 3; have vf4 := vf 4
          clear vf
          go_wp2_with fail
          have hr5 := put5_cells hM7.out.res (.int .i64 6) (.int .i64 0) (.string ⟨#[]⟩) (.slice (some ⟨gn, 0, none⟩) (ns.length + 1) cN) (.slice (some ⟨gi, 0, none⟩) (m + 1) cI)
          have r0 := hr5 0; have r1 := hr5 1; have r2 := hr5 2; have r3 := hr5 3; have r4 := hr5 4
          clear hr5
          refine bodyPost_ret (v := .agg #[.int .i64 6, .int .i64 0, .string ⟨#[]⟩, .slice (some ⟨gn, 0, none⟩) (ns.length + 1) cN, .slice (some ⟨gi, 0, none⟩) (m + 1) cI]) (by simp [results, Tryz.results39, go_sem, r0, r1, r2, r3, r4]) rfl ?_
          rw [hRe.out]
          exact RValPost.mk (w := w) hrl (fun j q e => by cases e) hVS.out hM7.out.fr
        have hKc := hKn
        rw [if_pos hlt4, if_pos hb5] at hKc
        clear hKn
        rw [hb5]
        rw [show (((58 : UInt8).toNat : Nat) : Int) = 58 from rfl]
        clear hb5
        obtain ⟨y0, y1, y2, y3, yf⟩ := hS5.out.cells
        have yf1 := yf 1
        clear yf
        have ht9 : (t : Int) ≤ 70000 := by omega
        have ht0 : (0 : Int) ≤ (t : Int) := by omega
        have hR6 := hid_e (hS5.out.set1 ((t : Int) + 1))
        have hM6 := hid_e (hM5.out.next ((FrP.refl (· = r) w5).set ⟨r, 1, none⟩ (.int .i64 ((t : Int) + 1)) (.inl rfl)))
        go_upto_region 18 with fail
        clear y0 y1 y2 y3 yf1 hM5 hS5
        generalize w5.setCell ⟨r, 1, none⟩ (.int .i64 ((t : Int) + 1)) = W2 at hR6 hM6 ⊢
        have hsk := skip_bd T (t + 1) hlt4
        obtain ⟨q, hqe⟩ : ∃ q, Hid (skip T (t + 1) = q) := ⟨_, hid_e rfl⟩
        rw [hqe.out] at hsk hKc
        obtain ⟨hqt, hq⟩ := hsk
        have hbl2 := hid_e (blanks_code r T (t + 1) W2 hT hR6.out hlt4)
        rw [hqe.out] at hbl2
        go_upto_region 19 with fail
        go_fit hbl2.out
        clear hbl2
        rintro e8 W3 ⟨rfl, hR3', hF3'⟩
        have hM3' := hid_e (hM6.out.next hF3')
        replace hR3' := hid_e hR3'
        clear hM6 hR6 hF3'
        obtain ⟨-, -, -, z3, -, -⟩ := row_cells hM3'.out.box
        have hMa := hid_e (hM3'.out.alloc (.cells #[.string sn] 9))
        obtain ⟨-, -, -, z3a, -, -⟩ := row_cells hMa.out.box
        go_upto_region 19 with fail
        go_upto_region 20 with (at_builtin; refine wpList_append_lies _ rfl _ _ 22 rfl (w.heap.size + 2) 9 i9 _ 1 16 Tryz.underlying22 hi9 hy0 hy1 hy2 rfl (by decide) _ ns.length (strs ns) rfl hMa.out.names _ 1 1 [.string sn] rfl rfl (World.news_of_block (heap_alloc_new W3 (.cells #[.string sn] 9))) (str_one _) (by decide) (by unfold maxLen; omega) (by omega) hMa.out.size _ rfl ?_; intro gn cN Wn how hgr hat hlt; have hMb := hid_e (hMa.out.growN hgr hat how); obtain ⟨-, -, -, z3b, -, zfb⟩ := row_cells hMb.out.box; have zf3 := zfb 3; clear zfb; have hRb := hid_e (RT.keep (S := fun j => w.heap.size ≤ j) (RT.keep (S := fun _ => False) hR3'.out ((FrP.refl _ W3).alloc (.cells #[.string sn] 9)) (fun e => e)) ((FrP.refl _ _).grown hgr (fun g hg => .inl (by have := (ownsRow_ge hMa.out.names hg).1; omega))) (by omega)); replace hgr := hid_e hgr; clear hat hlt how)
        have hMc := hid_e (hMb.out.setN (.slice (some ⟨gn, 0, none⟩) (ns.length + 1) cN))
        have hRc := hid_e (RT.keep (S := fun j => w.heap.size ≤ j) hRb.out ((FrP.refl _ Wn).set ⟨w.heap.size + 1, 3, none⟩ (.slice (some ⟨gn, 0, none⟩) (ns.length + 1) cN) (.inl (by show w.heap.size ≤ w.heap.size + 1; omega))) (by omega))
        clear z3 z3a z3b zf3 hMa hMb hRb hgr hM3' hR3'
        generalize Wn.setCell ⟨w.heap.size + 1, 3, none⟩ (.slice (some ⟨gn, 0, none⟩) (ns.length + 1) cN) = Wc at hMc hRc ⊢
        have hKv : Hid (memCont T val g' ns its sn (val q) = R) := hKc
        clear hKc
        go_upto_region 20 with fail
        replace hMc := hid_e hMc.out.drew
        have hbx := hMc.out.box
        have hRX := hid_e (RT.keep (S := fun _ => False) hRc.out ((FrP.refl _ Wc).drew) (fun e => e))
        have hcall := hid_e (hval.out q Wc.drew hRX.out hq)
        generalize hX : Wc.drew = X at hMc hbx hRX hcall
        refine wp_region_noPanic ?_
        refine Until.wp_region_U (fun _ => True) (fun W => W.heap[w.heap.size + 1]? = some (.cells #[.int .i64 6, .int .i64 0, .string ⟨#[]⟩, .slice (some ⟨gn, 0, none⟩) (ns.length + 1) cN, .slice ao m ci] 25 (0, 0))) 9 (by kernel_rfl) ?_
        rw [hX]
        clear hX
        refine Until.wpU_pure (i := 0) (oi := { dst := some 89, op := Op.fieldAddr 25 (Operand.tmp 5) 4, type := 0, pos := "ref.go:465", after := #[], guard := none }) (v := .pointer (some ⟨w.heap.size + 1, 4, none⟩)) rfl (by kernel_rfl) (by kernel_rfl) (by kernel_rfl) (by kernel_rfl) (by kernel_rfl) (fun _ _ _ h => h) (trivial) (fun _ => hbx) (by rfl) (by intro w'; go_simp) ?_
        try simp only [Act.put, List.setIfInBounds_toArray, List.set_cons_zero, List.set_cons_succ]
        refine Until.wpU_load1 (i := 1) (oi := { dst := some 90, op := Op.load 23 (Operand.tmp 89), type := 23, pos := "ref.go:465", after := #[{ on := 0, ground := Ground.data }], guard := none }) (v := .slice ao m ci) rfl (by kernel_rfl) (by kernel_rfl) (by kernel_rfl) (by kernel_rfl) (by kernel_rfl) (by kernel_rfl) (fun _ _ _ h => h) (trivial) (hbx) (by rfl) (by intro w' hw'; obtain ⟨t0, t1, t2, t3, t4, -⟩ := row_cells hw'; go_simp) ?_
        try simp only [Act.put, List.setIfInBounds_toArray, List.set_cons_zero, List.set_cons_succ]
        refine Until.wpU_pure (i := 2) (oi := { dst := some 91, op := Op.move (Operand.tmp 0), type := 46, pos := "ref.go:465", after := #[], guard := none }) (v := .pointer (some ⟨r, 0, none⟩)) rfl (by kernel_rfl) (by kernel_rfl) (by kernel_rfl) (by kernel_rfl) (by kernel_rfl) (fun _ _ _ h => h) (trivial) (fun _ => hbx) (by rfl) (by intro w'; go_simp) ?_
        try simp only [Act.put, List.setIfInBounds_toArray, List.set_cons_zero, List.set_cons_succ]
        refine Until.wpU_pure (i := 3) (oi := { dst := some 92, op := Op.move (Operand.tmp 1), type := 3, pos := "ref.go:465", after := #[], guard := none }) (v := .int .i64 (d : Int)) rfl (by kernel_rfl) (by kernel_rfl) (by kernel_rfl) (by kernel_rfl) (by kernel_rfl) (fun _ _ _ h => h) (trivial) (fun _ => hbx) (by rfl) (by intro w'; go_simp) ?_
        try simp only [Act.put, List.setIfInBounds_toArray, List.set_cons_zero, List.set_cons_succ]
        refine Until.wpU_pure (i := 4) (oi := { dst := some 93, op := Op.binOp BinOp.add 3 (Operand.tmp 92) (Operand.const (Value.int IntKind.i64 1)) 3, type := 3, pos := "ref.go:465", after := #[{ on := 3, ground := Ground.data }], guard := none }) (v := .int .i64 ((d : Int) + 1)) rfl (by kernel_rfl) (by kernel_rfl) (by kernel_rfl) (by kernel_rfl) (by kernel_rfl) (fun _ _ _ h => h) (trivial) (fun _ => hbx) (by rfl) (by intro w'; go_simp) ?_
        try simp only [Act.put, List.setIfInBounds_toArray, List.set_cons_zero, List.set_cons_succ]
        refine Until.wpU_ready (rs := [5]) (by kernel_rfl) (by simp) ?_
        refine (Until.AllU.cons (o := { dst := some 94, op := Op.call { callee := Callee.value (Operand.func 24), args := #[Operand.tmp 91, Operand.tmp 93], argTypes := #[46, 3] }, type := 25, pos := "ref.go:465", after := #[{ on := 2, ground := Ground.data }, { on := 4, ground := Ground.data }], guard := none }) rfl (fun K hK => ?_) Until.AllU.nil)
        go_simp
        refine hcall.out.mono ?_
        rintro e3 w3 ⟨k2, x2, s2, an2, ln2, cn2, ai2, li2, ci2, rfl, hsn, hS3, hF3⟩
        have hM3 := hid_e (hMc.out.next hF3)
        have hM3r : Hid (∀ u q1, val q = .ok u q1 → QM w r 6 (.slice (some ⟨gn, 0, none⟩) (ns.length + 1) cN) (.slice ao m ci) (.slice (some ⟨gn, 0, none⟩) (ns.length + 1) cN) (.slice ao m ci) (ns.length + 1) (strs ns ++ [.string sn]) m xI (ofL its ++ [ofJ u]) (xI ++ five k2 x2 s2 (.slice an2 ln2 cn2) (.slice ai2 li2 ci2)) w3) := fun u q1 e => hMc.out.read hF3 (hsn u q1 e) rfl
        clear hsn
        have b3 := hM3.out.box
        refine hK.out _ _ trivial (fun _ => b3) ?_
        clear hK K hcall hbx hRX
        try simp only [Act.put, List.setIfInBounds_toArray, List.set_cons_zero, List.set_cons_succ]
        refine Until.wpU_ready (rs := [6]) (by kernel_rfl) (by simp) ?_
        refine (Until.AllU.cons (o := { dst := some 95, op := Op.buildSlice 23 1 #[(0, Operand.tmp 94)], type := 23, pos := "ref.go:465", after := #[{ on := 5, ground := Ground.data }], guard := none }) rfl (fun K hK => ?_) Until.AllU.nil)
        go_simp
        have hM4 := hid_e (hM3.out.alloc (.cells #[.int .i64 k2, .int .i64 x2, .string s2, .slice an2 ln2 cn2, .slice ai2 li2 ci2] 25))
        have hM4r : Hid (∀ u q1, val q = .ok u q1 → QM w r 6 (.slice (some ⟨gn, 0, none⟩) (ns.length + 1) cN) (.slice ao m ci) (.slice (some ⟨gn, 0, none⟩) (ns.length + 1) cN) (.slice ao m ci) (ns.length + 1) (strs ns ++ [.string sn]) m xI (ofL its ++ [ofJ u]) (xI ++ five k2 x2 s2 (.slice an2 ln2 cn2) (.slice ai2 li2 ci2)) (w3.alloc (.cells #[.int .i64 k2, .int .i64 x2, .string s2, .slice an2 ln2 cn2, .slice ai2 li2 ci2] 25))) := fun u q1 e => (hM3r.out u q1 e).alloc _
        have nb := heap_alloc_new w3 (.cells #[.int .i64 k2, .int .i64 x2, .string s2, .slice an2 ln2 cn2, .slice ai2 li2 ci2] 25)
        have hS4 : Hid (VSt (w3.alloc (.cells #[.int .i64 k2, .int .i64 x2, .string s2, .slice an2 ln2 cn2, .slice ai2 li2 ci2] 25)) r T (val q)) := hS3.keep ((FrP.refl _ w3).alloc _)
        have b4 := hM4.out.box
        refine hK.out _ _ trivial (fun _ => b4) ?_
        clear hK K
        try simp only [Act.put, List.setIfInBounds_toArray, List.set_cons_zero, List.set_cons_succ]
        generalize w3.alloc (.cells #[.int .i64 k2, .int .i64 x2, .string s2, .slice an2 ln2 cn2, .slice ai2 li2 ci2] 25) = Y4 at hM4 hM4r nb b4 hS4 ⊢
        replace nb := hid_e nb
        refine Until.wpU_ready (rs := [7]) (by kernel_rfl) (by simp) ?_
        refine (Until.AllU.cons (o := { dst := some 96, op := Op.call { callee := Callee.builtin Builtin.append, args := #[Operand.tmp 90, Operand.tmp 95], argTypes := #[23, 23] }, type := 23, pos := "ref.go:465", after := #[{ on := 1, ground := Ground.data }, { on := 6, ground := Ground.data }, { on := 5, ground := Ground.chain }], guard := none }) rfl (fun K hK => ?_) Until.AllU.nil)
        refine step_append_lies _ (by rfl) _ _ 23 (by rfl) (w.heap.size + 2) 25 i0 _ 5 80 Tryz.underlying23 hi hz0 hz1 hz2 (by rfl) (by omega) _ m xI (by rfl) hM4.out.items _ 1 1 [.int .i64 k2, .int .i64 x2, .string s2, .slice an2 ln2 cn2, .slice ai2 li2 ci2] (by rfl) (by rfl) (World.news_of_block nb.out) (five_one _ _ _ _ _ _ _ _ _) (by omega) (by unfold maxLen; omega) (by omega) hM4.out.size _ rfl ?_
        intro gi cI Y5 how hgr hat hlt
        have hM5 := hid_e (hM4.out.growI hgr hat how)
        have hM5r : Hid (∀ u q1, val q = .ok u q1 → QM w r 6 (.slice (some ⟨gn, 0, none⟩) (ns.length + 1) cN) (.slice ao m ci) (.slice (some ⟨gn, 0, none⟩) (ns.length + 1) cN) (.slice (some ⟨gi, 0, none⟩) (m + 1) cI) (ns.length + 1) (strs ns ++ [.string sn]) (m + 1) (xI ++ five k2 x2 s2 (.slice an2 ln2 cn2) (.slice ai2 li2 ci2)) (ofL its ++ [ofJ u]) (xI ++ five k2 x2 s2 (.slice an2 ln2 cn2) (.slice ai2 li2 ci2)) Y5) := fun u q1 e => (hM4r.out u q1 e).growI hgr hat how
        have hne : ∀ g, (Value.slice ao m ci).ownBlock = some g → w.heap.size ≤ g := fun g e => by have := (ownsRow_ge hM4.out.items e).1; omega
        have hFr5 : FrP (fun j => w.heap.size ≤ j) Y4 Y5 := (FrP.refl _ Y4).grown hgr (fun g hg => .inl (hne g hg))
        have hS5 : Hid (VSt Y5 r T (val q)) := hS4.out.keepF hFr5 (by omega)
        have b5 := hM5.out.box
        clear how hgr hat hlt hne hFr5
        refine hK.out _ _ trivial (fun _ => b5) ?_
        clear hK K
        try simp only [Act.put, List.setIfInBounds_toArray, List.set_cons_zero, List.set_cons_succ]
        refine Until.wpU_pure (i := 8) (oi := { dst := some 97, op := Op.fieldAddr 25 (Operand.tmp 5) 4, type := 0, pos := "ref.go:465", after := #[{ on := 0, ground := Ground.phase }, { on := 1, ground := Ground.phase }, { on := 2, ground := Ground.phase }, { on := 3, ground := Ground.phase }, { on := 4, ground := Ground.phase }, { on := 5, ground := Ground.phase }, { on := 6, ground := Ground.phase }, { on := 7, ground := Ground.phase }], guard := none }) (v := .pointer (some ⟨w.heap.size + 1, 4, none⟩)) rfl (by kernel_rfl) (by kernel_rfl) (by kernel_rfl) (by kernel_rfl) (by kernel_rfl) (fun _ _ _ h => h) (trivial) (fun _ => b5) (by rfl) (by intro w'; go_simp) ?_
        try simp only [Act.put, List.setIfInBounds_toArray, List.set_cons_zero, List.set_cons_succ]
        obtain ⟨-, -, -, -, z4, zf⟩ := row_cells b5
        have zf4 := zf 4
        clear zf
        refine Until.wpU_ready (rs := [9]) (by kernel_rfl) (by simp) ?_
        refine (Until.AllU.cons (o := { dst := none, op := Op.store 23 (Operand.tmp 97) (Operand.tmp 96), type := 0, pos := "ref.go:465", after := #[{ on := 8, ground := Ground.data }, { on := 7, ground := Ground.data }, { on := 7, ground := Ground.chain }, { on := 0, ground := Ground.phase }, { on := 1, ground := Ground.phase }, { on := 2, ground := Ground.phase }, { on := 3, ground := Ground.phase }, { on := 4, ground := Ground.phase }, { on := 5, ground := Ground.phase }, { on := 6, ground := Ground.phase }, { on := 7, ground := Ground.phase }], guard := none }) rfl (fun K hK => ?_) Until.AllU.nil)
        go_simp
        have hM6 := hid_e (hM5.out.setI (.slice (some ⟨gi, 0, none⟩) (m + 1) cI)).blind
        have hFr6 : FrP (fun j => w.heap.size ≤ j) Y5 (Y5.setCell ⟨w.heap.size + 1, 4, none⟩ (.slice (some ⟨gi, 0, none⟩) (m + 1) cI)) := (FrP.refl _ Y5).set _ _ (.inl (by show w.heap.size ≤ w.heap.size + 1; omega))
        have hM6r : Hid (∀ u q1, val q = .ok u q1 → QM w r 6 (.slice (some ⟨gn, 0, none⟩) (ns.length + 1) cN) (.slice (some ⟨gi, 0, none⟩) (m + 1) cI) (.slice (some ⟨gn, 0, none⟩) (ns.length + 1) cN) (.slice (some ⟨gi, 0, none⟩) (m + 1) cI) (ns.length + 1) (strs ns ++ [.string sn]) (m + 1) (xI ++ five k2 x2 s2 (.slice an2 ln2 cn2) (.slice ai2 li2 ci2)) (ofL its ++ [ofJ u]) (xI ++ five k2 x2 s2 (.slice an2 ln2 cn2) (.slice ai2 li2 ci2)) (Y5.setCell ⟨w.heap.size + 1, 4, none⟩ (.slice (some ⟨gi, 0, none⟩) (m + 1) cI))) := fun u q1 e => (hM5r.out u q1 e).setI _
        have hS6 : Hid (VSt (Y5.setCell ⟨w.heap.size + 1, 4, none⟩ (.slice (some ⟨gi, 0, none⟩) (m + 1) cI)) r T (val q)) := hS5.out.keepF hFr6 (by omega)
        refine hK.out _ _ trivial (fun h => absurd h (by decide)) ?_
        clear hK K z4 zf4 b3 b4 b5 hFr6
        try simp only [Act.put, List.setIfInBounds_toArray, List.set_cons_zero, List.set_cons_succ]
        refine Until.wpU_done (by kernel_rfl) ?_ _
        refine NoPanic.normal ?_
        generalize Y5.setCell ⟨w.heap.size + 1, 4, none⟩ (.slice (some ⟨gi, 0, none⟩) (m + 1) cI) = Y6 at hM6 hM6r hS6 ⊢
        clear hM3 hM4 hM5 hM3r hM4r hM5r hS3 hS4 hS5 hF3
        cases hV : val q with
        | bad e p =>
          rw [hV] at hS6
          obtain ⟨he, zd, hRd⟩ := hS6.out
          have hRe : Hid (R = .bad e p) := by rw [Hid, ← hKv.out, hV] <;> rfl
          have hco := hid_e (comma_dead r T 125 zd (p : Int) (e : Int) Y6 hRd (by omega))
          rw [show ((125 : UInt8).toNat : Int) = 125 from rfl] at hco
          clear hM6r hKv hS6
          go_wp2_with fail
          go_fit hco.out
          clear hco
          rintro e5 w5 ⟨rfl, hS7, hF7⟩
          have hM7 := hid_e (hM6.out.next hF7)
          have hVS : Hid (VSt w5 r T (.bad e p : Res J)) := ⟨he, _, hS7⟩
          clear hS7 hF7 hM6 hRd
          obtain ⟨z0, z1, z2, z3, z4, -⟩ := row_cells hM7.out.box
          obtain ⟨v0, v1, v2, v3, v4, vf⟩ := row_cells hM7.out.res
          have vf0 := vf 0; have vf1 := vf 1; have vf2 := vf 2; have vf3 := vf 3; have vf4 := vf 4
          clear vf
          go_wp2_with fail
          have hr5 := put5_cells hM7.out.res (.int .i64 6) (.int .i64 0) (.string ⟨#[]⟩) (.slice (some ⟨gn, 0, none⟩) (ns.length + 1) cN) (.slice (some ⟨gi, 0, none⟩) (m + 1) cI)
          have r0 := hr5 0; have r1 := hr5 1; have r2 := hr5 2; have r3 := hr5 3; have r4 := hr5 4
          clear hr5
          refine bodyPost_ret (v := .agg #[.int .i64 6, .int .i64 0, .string ⟨#[]⟩, .slice (some ⟨gn, 0, none⟩) (ns.length + 1) cN, .slice (some ⟨gi, 0, none⟩) (m + 1) cI]) (by simp [results, Tryz.results39, go_sem, r0, r1, r2, r3, r4]) rfl ?_
          rw [hRe.out]
          exact RValPost.mk (w := w) hrl (fun j q e => by cases e) hVS.out hM7.out.fr
        | ok u q3 =>
          rw [hV] at hS6
          obtain ⟨m3, hm1, hm2, hm3, hR6⟩ := hS6.out
          have hfu := hid_e (hfine.out q hq)
          rw [hV] at hfu
          have hq31 := hfu.out.1
          have hq32 := hfu.out.2
          have hM7 := hid_e (hM6r.out u q3 hV)
          have hKw : Hid ((if skip T q3 < T.size then if byteAt T (skip T q3) = 125 then (.ok (ns ++ [sn], its ++ [u]) (skip T q3 + 1) : Res (List ByteArray × List J)) else if byteAt T (skip T q3) = 44 then loopR (memberR T (textR T) val) 125 T g' (ns ++ [sn], its ++ [u]) (skip T (skip T q3 + 1)) else .bad 10 (skip T q3) else .bad 3 T.size).map (fun p => J.obj p.1 p.2) = R) := by rw [Hid, ← hKv.out, hV] <;> rfl
          have hco := hid_e (comma_code r T 125 m3 Y6 hT (hid_e hR6) hm2)
          rw [show ((125 : UInt8).toNat : Int) = 125 from rfl] at hco
          have hs5 := skip_bd T q3 hq32
          obtain ⟨s3, hs3⟩ : ∃ s, Hid (skip T q3 = s) := ⟨_, hid_e rfl⟩
          rw [hs3.out] at hs5 hKw hm3
          obtain ⟨hs51, hs52⟩ := hs5
          replace hm3 := hid_e hm3
          clear hM6r hKv hS6 hfu hV hM6 hR6
          go_wp2_with fail
          go_fit hco.out
          clear hco
          rintro e5 w5 ⟨rfl, hS7, hF7⟩
          have hM8 := hid_e (hM7.out.next hF7)
          clear hM7 hF7
          by_cases hlt3 : s3 < T.size
          rotate_left
          · have hB : commaB T m3 = false := by unfold commaB; rw [hm3.out, decide_eq_false hlt3]; rfl
            have hE : commaR T 125 m3 = .bad 3 T.size := by unfold commaR; rw [hm3.out, if_neg hlt3]
            have hRe : Hid (R = .bad 3 T.size) := by rw [Hid, ← hKw.out, if_neg hlt3]; rfl
            rw [hB]
            rw [hE] at hS7
            replace hS7 := hid_e hS7
            clear hB hE
            obtain ⟨z0, z1, z2, z3, z4, -⟩ := row_cells hM8.out.box
            obtain ⟨v0, v1, v2, v3, v4, vf⟩ := row_cells hM8.out.res
            have vf0 := vf 0; have vf1 := vf 1; have vf2 := vf 2; have vf3 := vf 3; have vf4 := vf 4
            clear vf
            go_wp2_with fail
            have hr5 := put5_cells hM8.out.res (.int .i64 6) (.int .i64 0) (.string ⟨#[]⟩) (.slice (some ⟨gn, 0, none⟩) (ns.length + 1) cN) (.slice (some ⟨gi, 0, none⟩) (m + 1) cI)
            have r0 := hr5 0; have r1 := hr5 1; have r2 := hr5 2; have r3 := hr5 3; have r4 := hr5 4
            clear hr5
            refine bodyPost_ret (v := .agg #[.int .i64 6, .int .i64 0, .string ⟨#[]⟩, .slice (some ⟨gn, 0, none⟩) (ns.length + 1) cN, .slice (some ⟨gi, 0, none⟩) (m + 1) cI]) (by simp [results, Tryz.results39, go_sem, r0, r1, r2, r3, r4]) rfl ?_
            rw [hRe.out]
            exact RValPost.mk (w := w) hrl (fun j q e => by cases e) hS7.out hM8.out.fr
          by_cases hb1 : byteAt T s3 = 125
          · have hB : commaB T m3 = false := by unfold commaB; rw [hm3.out, hb1, decide_eq_true hlt3]; rfl
            have hE : commaR T 125 m3 = .ok () (skip T (s3 + 1)) := by unfold commaR; rw [hm3.out, if_pos hlt3, if_pos (.inr hb1)]
            have hRe : Hid (R = .ok (.obj (ns ++ [sn]) (its ++ [u])) (s3 + 1)) := by rw [Hid, ← hKw.out, if_pos hlt3, if_pos hb1]; rfl
            have hsk := skip_bd T (s3 + 1) hlt3
            have hVS : Hid (VSt w5 r T (.ok (.obj (ns ++ [sn]) (its ++ [u])) (s3 + 1) : Res J)) := ⟨skip T (s3 + 1), hsk.1, hsk.2, skip_idem T (s3 + 1) hlt3, by rw [hE] at hS7; exact hS7⟩
            have hEn := fun c0 c1 c2 c3 c4 => hid_e (qm_endN hM8.out him.out c0 c1 c2 c3 c4)
            rw [hB]
            clear hB hE hS7 hsk hb1
            obtain ⟨z0, z1, z2, z3, z4, -⟩ := row_cells hM8.out.box
            obtain ⟨v0, v1, v2, v3, v4, vf⟩ := row_cells hM8.out.res
            have vf0 := vf 0; have vf1 := vf 1; have vf2 := vf 2; have vf3 := vf 3; have vf4 := vf 4
            clear vf
            go_wp2_with fail
            have hr5 := put5_cells hM8.out.res (.int .i64 6) (.int .i64 0) (.string ⟨#[]⟩) (.slice (some ⟨gn, 0, none⟩) (ns.length + 1) cN) (.slice (some ⟨gi, 0, none⟩) (m + 1) cI)
            have r0 := hr5 0; have r1 := hr5 1; have r2 := hr5 2; have r3 := hr5 3; have r4 := hr5 4
            clear hr5
            refine bodyPost_ret (v := .agg #[.int .i64 6, .int .i64 0, .string ⟨#[]⟩, .slice (some ⟨gn, 0, none⟩) (ns.length + 1) cN, .slice (some ⟨gi, 0, none⟩) (m + 1) cI]) (by simp [results, Tryz.results39, go_sem, r0, r1, r2, r3, r4]) rfl ?_
            rw [hRe.out]
            exact RValPost.mk (w := w) hrl (fun j q e => by cases e; exact (hEn _ _ _ _ _).out) hVS.out hM8.out.fr
          by_cases hb2 : byteAt T s3 = 44
          rotate_left
          · have hB : commaB T m3 = false := by unfold commaB; rw [hm3.out, decide_eq_true hlt3]; simpa using hb2
            have hE : commaR T 125 m3 = .bad 10 s3 := by unfold commaR; rw [hm3.out, if_pos hlt3, if_neg (fun e => e.elim hb2 hb1)]
            have hRe : Hid (R = .bad 10 s3) := by rw [Hid, ← hKw.out, if_pos hlt3, if_neg hb1, if_neg hb2]; rfl
            rw [hB]
            rw [hE] at hS7
            replace hS7 := hid_e hS7
            clear hB hE hb1 hb2
            obtain ⟨z0, z1, z2, z3, z4, -⟩ := row_cells hM8.out.box
            obtain ⟨v0, v1, v2, v3, v4, vf⟩ := row_cells hM8.out.res
            have vf0 := vf 0; have vf1 := vf 1; have vf2 := vf 2; have vf3 := vf 3; have vf4 := vf 4
            clear vf
            go_wp2_with fail
            have hr5 := put5_cells hM8.out.res (.int .i64 6) (.int .i64 0) (.string ⟨#[]⟩) (.slice (some ⟨gn, 0, none⟩) (ns.length + 1) cN) (.slice (some ⟨gi, 0, none⟩) (m + 1) cI)
            have r0 := hr5 0; have r1 := hr5 1; have r2 := hr5 2; have r3 := hr5 3; have r4 := hr5 4
            clear hr5
            refine bodyPost_ret (v := .agg #[.int .i64 6, .int .i64 0, .string ⟨#[]⟩, .slice (some ⟨gn, 0, none⟩) (ns.length + 1) cN, .slice (some ⟨gi, 0, none⟩) (m + 1) cI]) (by simp [results, Tryz.results39, go_sem, r0, r1, r2, r3, r4]) rfl ?_
            rw [hRe.out]
            exact RValPost.mk (w := w) hrl (fun j q e => by cases e) hS7.out hM8.out.fr
          have hB : commaB T m3 = true := by unfold commaB; rw [hm3.out, hb2, decide_eq_true hlt3]; rfl
          have hE : commaR T 125 m3 = .ok () (skip T (s3 + 1)) := by unfold commaR; rw [hm3.out, if_pos hlt3, if_pos (.inl hb2)]
          rw [hE] at hS7
          replace hS7 : Hid (RT w5 r T ((skip T (s3 + 1) : Nat) : Int) 0 0) := hS7
          have hsk := skip_bd T (s3 + 1) hlt3
          rw [if_pos hlt3, if_neg hb1, if_pos hb2] at hKw
          rw [hB]
          clear hB hE
          go_wp2_with fail
          go_roundg g'
          case measure => omega
          case rel =>
            have eN : (ns ++ [sn]).length = ns.length + 1 := by simp
            have hM9 := hM8.out
            rw [← strs_snoc, ← eN, ← ofL_snoc] at hM9
            exact ⟨skip T (s3 + 1), ns ++ [sn], its ++ [u], m + 1, _, some ⟨gn, 0, none⟩, cN, some ⟨gi, 0, none⟩, cI, hsk.2, by omega, by rw [Hid, List.length_append, him.out]; rfl, by rw [Hid, List.length_append, hnm.out]; rfl, by omega, hS7, hid_e hM9, hKw⟩
end Go.Proofs.YtnccaidlcaeeaaaGreatDoor.Tree
