import Derived.Test.YtbcfkajcmbckbaaGreatDoorKV
import Derived.Test.YtbcfkajcmbckbaaGreatDoorNB
/-! schema: matches in the order of their properties. -/
namespace Go.Proofs.YtbcfkajcmbckbaaGreatDoor
open Go Go.RowKit Go.Stab

def cnI (x y : Int) : Int := if x < y then -1 else if y < x then 1 else 0
theorem cnI_lt {x y : Int} (h : x < y) : cnI x y = -1 := by unfold cnI; rw [if_pos h]
theorem cnI_gt {x y : Int} (h : y < x) : cnI x y = 1 := by unfold cnI; rw [if_neg (by omega), if_pos h]
theorem cnI_eq (x : Int) : cnI x x = 0 := by unfold cnI; simp
theorem cnI_neg (x y : Int) : cnI x y < 0 ↔ x < y := by
  unfold cnI; split
  · simp [*]
  · split <;> simp <;> omega
set_option maxHeartbeats 1000000 in
theorem nanM (x : Int) (w : World) : Calls Tryz.prog 109 #[.int .i64 x] w fun e w' => e = .returned (.bool false) ∧ w' = w := by
  go_enter Tryz.func109, Tryz.ntmps109
  go_wp2_with fail
  go_ret
  exact ⟨by simp, rfl⟩
set_option maxHeartbeats 1000000 in
theorem cmpM (x y : Int) (w : World) : Calls Tryz.prog 107 #[.int .i64 x, .int .i64 y] w fun e w' => e = .returned (.int .i64 (cnI x y)) ∧ w' = w := by
  rcases Int.lt_trichotomy x y with h | rfl | h
  · rw [cnI_lt h]
    go_enter Tryz.func107, Tryz.ntmps107
    go_wp2_with (go_at_call 109; refine (nanM _ _).mono ?_; rintro e w' ⟨rfl, rfl⟩)
    go_ret
    exact ⟨rfl, rfl⟩
  · rw [cnI_eq]
    go_enter Tryz.func107, Tryz.ntmps107
    go_wp2_with (go_at_call 109; refine (nanM _ _).mono ?_; rintro e w' ⟨rfl, rfl⟩)
    go_ret
    exact ⟨rfl, rfl⟩
  · rw [cnI_gt h]
    have h' : decide (x < y) = false := by simp; omega
    go_enter Tryz.func107, Tryz.ntmps107
    go_wp2_with (go_at_call 109; refine (nanM _ _).mono ?_; rintro e w' ⟨rfl, rfl⟩)
    go_ret
    exact ⟨rfl, rfl⟩
/-- A match as it lies: the property's number, the member's. -/
def encM (p : Nat × Nat) : Array Value := #[.int .i64 p.1, .int .i64 p.2]
theorem encM_enc : SortM.Enc encM := ⟨fun _ => rfl, fun _ => by simp [encM, Value.oneCell']⟩
def cnM (p q : Nat × Nat) : Int := cnI p.1 q.1
def ltM (p q : Nat × Nat) : Bool := decide (cnM p q < 0)
set_option maxHeartbeats 1000000 in
theorem seek_cmp (p q : Nat × Nat) (w : World) : Calls Tryz.prog 106 #[.agg (encM p), .agg (encM q)] w fun e w' => e = .returned (.int .i64 (cnM p q)) ∧ Below w.heap.size w w' := by
  obtain ⟨a, b⟩ := p
  obtain ⟨c, d⟩ := q
  unfold encM cnM
  simp only
  have hb0 := (Below.refl _ w).alloc (Nat.le_refl _) (.cells #[.int .i64 a, .int .i64 b] 170)
  have hb1 := hid_of (hb0.alloc hb0.size (.cells #[.int .i64 c, .int .i64 d] 170))
  have n1 := new1 w (.cells #[.int .i64 a, .int .i64 b] 170) (.cells #[.int .i64 c, .int .i64 d] 170)
  have n2 := new2 w (.cells #[.int .i64 a, .int .i64 b] 170) (.cells #[.int .i64 c, .int .i64 d] 170)
  have y0 := (cell_of n1 0).trans rfl
  have z0 := (cell_of n2 0).trans rfl
  clear n1 n2 hb0
  go_enter Tryz.func106, Tryz.ntmps106
  go_wp2_with (go_at_call 107; refine (cmpM _ _ _).mono ?_; rintro e w' ⟨rfl, rfl⟩)
  go_ret
  exact ⟨rfl, hb1.out⟩
theorem ltM_swo : Swo ltM := by
  constructor <;> (unfold ltM cnM; simp only [cnI_neg, decide_eq_true_eq, decide_eq_false_iff_not]; omega)
/-- The matches sorted: in the row where they were, each as often as before. -/
theorem matches_sort (b : Nat) (D : List (Nat × Nat)) (cap : Nat) (w : World) (hR : SortM.RowE encM w b D) (hw : SortM.But b w w) (hnn : D.length ≤ 1152921504606846976) :
    Calls Tryz.prog 105 #[.slice (some ⟨b, 0, none⟩) D.length cap, .func (.func 106) #[] #[]] w fun e w' => e = .returned (.tuple #[]) ∧ SortM.RowE encM w' b (isort ltM D) ∧ SortM.But b w w' :=
  SortM.sort_any encM_enc ltM_swo cnM (fun _ _ => rfl) (fun p q W _ => seek_cmp p q W) D D.length cap w hw hR rfl hnn
end Go.Proofs.YtbcfkajcmbckbaaGreatDoor
/-! schema: properties are sought in an object. -/
namespace Go.Proofs.YtbcfkajcmbckbaaGreatDoor
open Go Go.RowKit

/-- Matches as they lie in a row. -/
def MRow (W : World) (a : Option Addr) (D : List (Nat × Nat)) : Prop := ∀ j p, D[j]? = some p → ∃ b o, a = some ⟨b, o, none⟩ ∧ W.cell? ⟨b, o + j * 2, none⟩ = some (.int .i64 (p.1 : Int)) ∧ W.cell? ⟨b, o + j * 2 + 1, none⟩ = some (.int .i64 (p.2 : Int))
theorem MRow.keep {W W' : World} {a : Option Addr} {D : List (Nat × Nat)} (h : MRow W a D) (hb : Below W.heap.size W W') : MRow W' a D := fun j p hj => by
  obtain ⟨b, o, h1, h2, h3⟩ := h j p hj
  exact ⟨b, o, h1, stay hb h2, stay hb h3⟩
/-- Of a match: the schema's rules, the member's name and value, and what seeking there leads to. -/
def MOk (w : World) (n sl : Nat) (sa : Option Addr) (u : V5) (z : Bool) (p : Nat × Nat) : Prop := p.1 < sl ∧ p.2 < u.ln ∧ p.2 < u.li ∧ ∃ (sb so nb no ib io : Nat) (ra : Option Addr) (rl rc : Nat) (s : ByteArray) (v : V5), sa = some ⟨sb, so, none⟩ ∧ w.cell? ⟨sb, so + p.1, none⟩ = some (.slice ra rl rc) ∧ u.an = some ⟨nb, no, none⟩ ∧ w.cell? ⟨nb, no + p.2, none⟩ = some (.string s) ∧ u.ai = some ⟨ib, io, none⟩ ∧ w.cell? ⟨ib, io + p.2 * 5, none⟩ = some (.int .i64 v.k) ∧ w.cell? ⟨ib, io + p.2 * 5 + 1, none⟩ = some (.int .i64 v.x) ∧ w.cell? ⟨ib, io + p.2 * 5 + 2, none⟩ = some (.string v.s) ∧ w.cell? ⟨ib, io + p.2 * 5 + 3, none⟩ = some (.slice v.an v.ln v.cn) ∧ w.cell? ⟨ib, io + p.2 * 5 + 4, none⟩ = some (.slice v.ai v.li v.ci) ∧
  ∀ W pb, Below w.heap.size w W → PlcAt W (n + 1) (.pointer (some ⟨pb, 0, none⟩)) → Calls Tryz.prog 24 #[.slice ra rl rc, v.v, .pointer (some ⟨pb, 0, none⟩)] W (SeekZ z W)
set_option maxHeartbeats 16000000 in
set_option maxRecDepth 100000 in
theorem props_seek_any (mp : Value) (sa : Option Addr) (sl sc : Nat) (u : V5) (n : Nat) (o : Option Nat) (w : World) (D D2 : List (Nat × Nat)) (K0 : Nat × Nat → Bool) (hl : D.length ≤ 1759218604390) (hsl : sl ≤ 1759218604390) (hli : u.li ≤ 1759218604390) (hper : D2.length = D.length) (hall : D2.all K0 = D.all K0) (hP : PlcAt w n (.pointer (o.map fun b => ⟨b, 0, none⟩)))
    (hNm : Hid (∀ W, Below w.heap.size w W → Calls Tryz.prog 104 #[.agg #[mp, .slice sa sl sc], u.v] W fun e w' => ∃ a c, e = .returned (.slice a D.length c) ∧ Below W.heap.size W w' ∧
      Calls Tryz.prog 105 #[.slice a D.length c, .func (.func 106) #[] #[]] w' fun e w2 => e = .returned (.tuple #[]) ∧ Below W.heap.size w' w2 ∧ MRow w2 a D2))
    (hI : Hid (∀ p, p ∈ D2 → MOk w n sl sa u (K0 p) p)) :
    Calls Tryz.prog 103 #[.agg #[mp, .slice sa sl sc], u.v, .pointer (o.map fun b => ⟨b, 0, none⟩)] w (SeekZ (D.all K0) w) := by
  have hb0 := (Below.refl _ w).alloc (Nat.le_refl _) (.cells #[mp, .slice sa sl sc] 112)
  have hb := hid_of (hb0.alloc hb0.size (u.obj 25))
  have n1 := new1 w (.cells #[mp, .slice sa sl sc] 112) (u.obj 25)
  have n2 := new2 w (.cells #[mp, .slice sa sl sc] 112) (u.obj 25)
  have hnm := hid_of (hNm.out _ hb.out)
  obtain ⟨R, hRR⟩ : ∃ R, Hid (D2.all K0 = R) := ⟨_, rfl⟩
  rw [← hall, hRR.out]
  have h0 : Hid ((D2.drop 0).all K0 = R) := hRR
  obtain ⟨pp, hpp⟩ : ∃ pp : Option Addr, Hid ((o.map fun b => (⟨b, 0, none⟩ : Addr)) = pp) := ⟨_, rfl⟩
  rw [hpp.out] at hP ⊢
  replace hP := hid_of hP
  obtain ⟨L, hL⟩ : ∃ L, Hid (D.length = L) := ⟨_, rfl⟩
  rw [hL.out] at hnm hl hper
  replace hper := hid_of hper
  unfold V5.obj V5.v at *
  try simp only at *
  clear hb0 hall hNm
  go_enter Tryz.func103, Tryz.ntmps103
  go_wp2_with fail
  generalize (w.alloc (.cells #[mp, .slice sa sl sc] 112)).alloc (.cells #[.int .i64 u.k, .int .i64 u.x, .string u.s, .slice u.an u.ln u.cn, .slice u.ai u.li u.ci] 25) = X at *
  refine hnm.out.mono ?_
  rintro e W0 ⟨a, c, rfl, hb1, hso⟩
  replace hso := hid_of hso
  replace hb1 := hid_of hb1
  clear hnm
  go_wp2_with fail
  refine hso.out.mono ?_
  rintro e Y ⟨rfl, hb2, hM0⟩
  have hBY := hid_of (hb1.out.trans hb2)
  have q1 := hid_of (block_keep n1 hBY.out)
  have q2 := hid_of (block_keep n2 hBY.out)
  replace hM0 := hid_of hM0
  have hBw := hid_of (hb.out.trans (hBY.out.mono hb.out.size))
  clear hso hb1 hb2 n1 n2 hBY hb
  go_wp2_with fail
  go_loopw [16] (fun i wr => ∃ q : Nat, q ≤ L ∧ i = .int .i64 q ∧ Hid (Below Y.heap.size Y wr) ∧ Hid ((D2.drop q).all K0 = R)) (fun i _ => L - (intOf i).toNat)
  case atStart => exact ⟨0, Nat.zero_le _, rfl, Below.refl _ _, h0⟩
  case round =>
    obtain ⟨q, hq, rfl, hBr, hM⟩ := hrel
    have hqb : (q : Int) ≤ 1759218604390 := by omega
    by_cases hlt : q < L
    · obtain ⟨p, hp⟩ : ∃ p, Hid (D2[q]? = some p) := ⟨_, hid_e (List.getElem?_eq_getElem (by rw [hper.out]; exact hlt))⟩
      obtain ⟨mb, mo, ha, m0, m1⟩ := hM0.out q p hp.out
      obtain ⟨l1, l2, l3, sb, so, nb, no, ib, io, ra, rl, rc, s, v, hsa, c5, han, c6, hai, c7, c8, c9, c10, c11, hk⟩ := hI.out p (List.mem_of_getElem? hp.out)
      have hst := hid_of (show (D2.drop q).all K0 = (K0 p && (D2.drop (q + 1)).all K0) by
        have hlt2 := (List.getElem?_eq_some_iff.1 hp.out).1
        rw [List.drop_eq_getElem_cons hlt2, (List.getElem?_eq_some_iff.1 hp.out).2, List.all_cons])
      obtain ⟨kn, hkn⟩ : ∃ z, Hid (K0 p = z) := ⟨_, rfl⟩
      rw [hkn.out] at hst hk
      obtain ⟨p1, p2⟩ := p
      simp only at m0 m1 l1 l2 l3 c5 c6 c7 c8 c9 c10 c11
      replace hk := hid_of hk
      have hBwr := hid_of (hBw.out.trans (hBr.out.mono hBw.out.size))
      replace m0 := stay hBr.out m0
      replace m1 := stay hBr.out m1
      have r1 := block_keep q1.out hBr.out
      have r2 := block_keep q2.out hBr.out
      have hi : (q : Int) < (L : Int) := by omega
      have l1b : (p1 : Int) < (sl : Int) := by omega
      have l2b : (p2 : Int) < (u.ln : Int) := by omega
      have l3b : (p2 : Int) < (u.li : Int) := by omega
      have b1 : (p1 : Int) ≤ 1759218604390 := by omega
      have b2 : (p2 : Int) ≤ 1759218604390 := by omega
      rw [ha]
      rw [hsa] at r1
      rw [han, hai] at r2
      clear hp ha hsa han hai
      go_upto_region 6 with fail
      have hBd := hid_of (below_drew (hBwr.out.alloc hBwr.out.size (.cells #[.int .i64 (p1 : Int), .int .i64 (p2 : Int)] 170)))
      have hBe := hid_of (below_drew (hBr.out.alloc hBr.out.size (.cells #[.int .i64 (p1 : Int), .int .i64 (p2 : Int)] 170)))
      have k3 := heap_alloc_new wr (.cells #[.int .i64 (p1 : Int), .int .i64 (p2 : Int)] 170)
      have k1 := (Below.heap_alloc wr (.cells #[.int .i64 (p1 : Int), .int .i64 (p2 : Int)] 170) _ (Array.getElem?_eq_some_iff.1 r1).1).trans r1
      have k2 := (Below.heap_alloc wr (.cells #[.int .i64 (p1 : Int), .int .i64 (p2 : Int)] 170) _ (Array.getElem?_eq_some_iff.1 r2).1).trans r2
      generalize wr.alloc (.cells #[.int .i64 (p1 : Int), .int .i64 (p2 : Int)] 170) = A at *
      obtain ⟨M, hMM⟩ : ∃ M, Hid (wr.heap.size = M) := ⟨_, rfl⟩
      rw [hMM.out] at k3 ⊢
      have y0 : A.drew.cell? ⟨w.heap.size, 1, none⟩ = some (.slice (some ⟨sb, so, none⟩) sl sc) := cell_of k1 1
      have y1 : A.drew.cell? ⟨w.heap.size + 1, 3, none⟩ = some (.slice (some ⟨nb, no, none⟩) u.ln u.cn) := cell_of k2 3
      have y2 : A.drew.cell? ⟨w.heap.size + 1, 4, none⟩ = some (.slice (some ⟨ib, io, none⟩) u.li u.ci) := cell_of k2 4
      have y3 : A.drew.cell? ⟨M, 0, none⟩ = some (.int .i64 p1) := cell_of k3 0
      have y4 : A.drew.cell? ⟨M, 1, none⟩ = some (.int .i64 p2) := cell_of k3 1
      have y5 := stay hBd.out c5
      have y6 := stay hBd.out c6
      have y7 := stay hBd.out c7
      have y8 := stay hBd.out c8
      have y9 := stay hBd.out c9
      have y10 := stay hBd.out c10
      have y11 := stay hBd.out c11
      have y12 := y7
      clear k1 k2 k3 r1 r2 c5 c6 c7 c8 c9 c10 c11 m0 m1
      refine wp_region_held_drew (S := (fun V => V.cell? ⟨w.heap.size, 1, none⟩ = some (.slice (some ⟨sb, so, none⟩) sl sc) ∧ V.cell? ⟨w.heap.size + 1, 3, none⟩ = some (.slice (some ⟨nb, no, none⟩) u.ln u.cn) ∧ V.cell? ⟨w.heap.size + 1, 4, none⟩ = some (.slice (some ⟨ib, io, none⟩) u.li u.ci) ∧ V.cell? ⟨M, 0, none⟩ = some (.int .i64 p1) ∧ V.cell? ⟨M, 1, none⟩ = some (.int .i64 p2) ∧ V.cell? ⟨sb, so + p1, none⟩ = some (.slice ra rl rc) ∧ V.cell? ⟨nb, no + p2, none⟩ = some (.string s) ∧ V.cell? ⟨ib, io + p2 * 5, none⟩ = some (.int .i64 v.k) ∧ V.cell? ⟨ib, io + p2 * 5 + 1, none⟩ = some (.int .i64 v.x) ∧ V.cell? ⟨ib, io + p2 * 5 + 2, none⟩ = some (.string v.s) ∧ V.cell? ⟨ib, io + p2 * 5 + 3, none⟩ = some (.slice v.an v.ln v.cn) ∧ V.cell? ⟨ib, io + p2 * 5 + 4, none⟩ = some (.slice v.ai v.li v.ci) ∧ V.cell? ⟨ib, io + p2 * 5, none⟩ = some (.int .i64 v.k))) (by kernel_rfl) ⟨y0, y1, y2, y3, y4, y5, y6, y7, y8, y9, y10, y11, y12⟩ (fun hHeld => ?_)
      refine wpAnyH_take (i := 0) (v := .pointer (some ⟨w.heap.size, 1, none⟩)) rfl (by kernel_rfl) (by kernel_rfl) (by kernel_rfl) (fun _ _ _ h => h) (Or.inl ⟨by rfl, (by intro w' hS; obtain ⟨s0, s1, s2, s3, s4, s5, s6, s7, s8, s9, s10, s11, s12⟩ := hS; go_simp)⟩) hHeld ?_
      simp only [Act.put, List.getElem_toArray, List.getElem_cons_zero, List.setIfInBounds_toArray, List.set_cons_zero, List.set_cons_succ]
      refine wpAnyH_take (i := 1) (v := .slice (some ⟨sb, so, none⟩) sl sc) rfl (by kernel_rfl) (by kernel_rfl) (by kernel_rfl) (fun _ _ _ h => h) (Or.inl ⟨by rfl, (by intro w' hS; obtain ⟨s0, s1, s2, s3, s4, s5, s6, s7, s8, s9, s10, s11, s12⟩ := hS; go_simp)⟩) hHeld ?_
      simp only [Act.put, List.getElem_toArray, List.getElem_cons_zero, List.getElem_cons_succ, List.setIfInBounds_toArray, List.set_cons_zero, List.set_cons_succ]
      refine wpAnyH_take (i := 2) (v := .pointer (some ⟨M, 0, none⟩)) rfl (by kernel_rfl) (by kernel_rfl) (by kernel_rfl) (fun _ _ _ h => h) (Or.inl ⟨by rfl, (by intro w' hS; obtain ⟨s0, s1, s2, s3, s4, s5, s6, s7, s8, s9, s10, s11, s12⟩ := hS; go_simp)⟩) hHeld ?_
      simp only [Act.put, List.getElem_toArray, List.getElem_cons_zero, List.getElem_cons_succ, List.setIfInBounds_toArray, List.set_cons_zero, List.set_cons_succ]
      refine wpAnyH_take (i := 3) (v := .int .i64 p1) rfl (by kernel_rfl) (by kernel_rfl) (by kernel_rfl) (fun _ _ _ h => h) (Or.inl ⟨by rfl, (by intro w' hS; obtain ⟨s0, s1, s2, s3, s4, s5, s6, s7, s8, s9, s10, s11, s12⟩ := hS; go_simp)⟩) hHeld ?_
      simp only [Act.put, List.getElem_toArray, List.getElem_cons_zero, List.getElem_cons_succ, List.setIfInBounds_toArray, List.set_cons_zero, List.set_cons_succ]
      refine wpAnyH_take (i := 4) (v := .pointer (some ⟨sb, so + p1, none⟩)) rfl (by kernel_rfl) (by kernel_rfl) (by kernel_rfl) (fun _ _ _ h => h) (Or.inl ⟨by rfl, (by intro w' hS; obtain ⟨s0, s1, s2, s3, s4, s5, s6, s7, s8, s9, s10, s11, s12⟩ := hS; go_simp)⟩) hHeld ?_
      simp only [Act.put, List.getElem_toArray, List.getElem_cons_zero, List.getElem_cons_succ, List.setIfInBounds_toArray, List.set_cons_zero, List.set_cons_succ]
      refine wpAnyH_take (i := 5) (v := .slice ra rl rc) rfl (by kernel_rfl) (by kernel_rfl) (by kernel_rfl) (fun _ _ _ h => h) (Or.inl ⟨by rfl, (by intro w' hS; obtain ⟨s0, s1, s2, s3, s4, s5, s6, s7, s8, s9, s10, s11, s12⟩ := hS; go_simp)⟩) hHeld ?_
      simp only [Act.put, List.getElem_toArray, List.getElem_cons_zero, List.getElem_cons_succ, List.setIfInBounds_toArray, List.set_cons_zero, List.set_cons_succ]
      refine wpAnyH_take (i := 6) (v := .pointer (some ⟨w.heap.size + 1, 4, none⟩)) rfl (by kernel_rfl) (by kernel_rfl) (by kernel_rfl) (fun _ _ _ h => h) (Or.inl ⟨by rfl, (by intro w' hS; obtain ⟨s0, s1, s2, s3, s4, s5, s6, s7, s8, s9, s10, s11, s12⟩ := hS; go_simp)⟩) hHeld ?_
      simp only [Act.put, List.getElem_toArray, List.getElem_cons_zero, List.getElem_cons_succ, List.setIfInBounds_toArray, List.set_cons_zero, List.set_cons_succ]
      refine wpAnyH_take (i := 7) (v := .slice (some ⟨ib, io, none⟩) u.li u.ci) rfl (by kernel_rfl) (by kernel_rfl) (by kernel_rfl) (fun _ _ _ h => h) (Or.inl ⟨by rfl, (by intro w' hS; obtain ⟨s0, s1, s2, s3, s4, s5, s6, s7, s8, s9, s10, s11, s12⟩ := hS; go_simp)⟩) hHeld ?_
      simp only [Act.put, List.getElem_toArray, List.getElem_cons_zero, List.getElem_cons_succ, List.setIfInBounds_toArray, List.set_cons_zero, List.set_cons_succ]
      refine wpAnyH_take (i := 8) (v := .pointer (some ⟨M, 1, none⟩)) rfl (by kernel_rfl) (by kernel_rfl) (by kernel_rfl) (fun _ _ _ h => h) (Or.inl ⟨by rfl, (by intro w' hS; obtain ⟨s0, s1, s2, s3, s4, s5, s6, s7, s8, s9, s10, s11, s12⟩ := hS; go_simp)⟩) hHeld ?_
      simp only [Act.put, List.getElem_toArray, List.getElem_cons_zero, List.getElem_cons_succ, List.setIfInBounds_toArray, List.set_cons_zero, List.set_cons_succ]
      refine wpAnyH_take (i := 9) (v := .int .i64 p2) rfl (by kernel_rfl) (by kernel_rfl) (by kernel_rfl) (fun _ _ _ h => h) (Or.inl ⟨by rfl, (by intro w' hS; obtain ⟨s0, s1, s2, s3, s4, s5, s6, s7, s8, s9, s10, s11, s12⟩ := hS; go_simp)⟩) hHeld ?_
      simp only [Act.put, List.getElem_toArray, List.getElem_cons_zero, List.getElem_cons_succ, List.setIfInBounds_toArray, List.set_cons_zero, List.set_cons_succ]
      refine wpAnyH_take (i := 10) (v := .pointer (some ⟨ib, io + p2 * 5, none⟩)) rfl (by kernel_rfl) (by kernel_rfl) (by kernel_rfl) (fun _ _ _ h => h) (Or.inl ⟨by rfl, (by intro w' hS; obtain ⟨s0, s1, s2, s3, s4, s5, s6, s7, s8, s9, s10, s11, s12⟩ := hS; go_simp)⟩) hHeld ?_
      simp only [Act.put, List.getElem_toArray, List.getElem_cons_zero, List.getElem_cons_succ, List.setIfInBounds_toArray, List.set_cons_zero, List.set_cons_succ]
      refine wpAnyH_take (i := 11) (v := .agg #[.int .i64 v.k, .int .i64 v.x, .string v.s, .slice v.an v.ln v.cn, .slice v.ai v.li v.ci]) rfl (by kernel_rfl) (by kernel_rfl) (by kernel_rfl) (fun _ _ _ h => h) (Or.inl ⟨by rfl, (by intro w' hS; obtain ⟨s0, s1, s2, s3, s4, s5, s6, s7, s8, s9, s10, s11, s12⟩ := hS; go_simp)⟩) hHeld ?_
      simp only [Act.put, List.getElem_toArray, List.getElem_cons_zero, List.getElem_cons_succ, List.setIfInBounds_toArray, List.set_cons_zero, List.set_cons_succ]
      refine wpAnyH_take (i := 12) (v := .pointer pp) rfl (by kernel_rfl) (by kernel_rfl) (by kernel_rfl) (fun _ _ _ h => h) (Or.inl ⟨by rfl, (by intro w' hS; obtain ⟨s0, s1, s2, s3, s4, s5, s6, s7, s8, s9, s10, s11, s12⟩ := hS; go_simp)⟩) hHeld ?_
      simp only [Act.put, List.getElem_toArray, List.getElem_cons_zero, List.getElem_cons_succ, List.setIfInBounds_toArray, List.set_cons_zero, List.set_cons_succ]
      refine wpAnyH_take (i := 13) (v := .pointer (some ⟨w.heap.size + 1, 3, none⟩)) rfl (by kernel_rfl) (by kernel_rfl) (by kernel_rfl) (fun _ _ _ h => h) (Or.inl ⟨by rfl, (by intro w' hS; obtain ⟨s0, s1, s2, s3, s4, s5, s6, s7, s8, s9, s10, s11, s12⟩ := hS; go_simp)⟩) hHeld ?_
      simp only [Act.put, List.getElem_toArray, List.getElem_cons_zero, List.getElem_cons_succ, List.setIfInBounds_toArray, List.set_cons_zero, List.set_cons_succ]
      refine wpAnyH_take (i := 14) (v := .slice (some ⟨nb, no, none⟩) u.ln u.cn) rfl (by kernel_rfl) (by kernel_rfl) (by kernel_rfl) (fun _ _ _ h => h) (Or.inl ⟨by rfl, (by intro w' hS; obtain ⟨s0, s1, s2, s3, s4, s5, s6, s7, s8, s9, s10, s11, s12⟩ := hS; go_simp)⟩) hHeld ?_
      simp only [Act.put, List.getElem_toArray, List.getElem_cons_zero, List.getElem_cons_succ, List.setIfInBounds_toArray, List.set_cons_zero, List.set_cons_succ]
      refine wpAnyH_take (i := 15) (v := .pointer (some ⟨M, 1, none⟩)) rfl (by kernel_rfl) (by kernel_rfl) (by kernel_rfl) (fun _ _ _ h => h) (Or.inl ⟨by rfl, (by intro w' hS; obtain ⟨s0, s1, s2, s3, s4, s5, s6, s7, s8, s9, s10, s11, s12⟩ := hS; go_simp)⟩) hHeld ?_
      simp only [Act.put, List.getElem_toArray, List.getElem_cons_zero, List.getElem_cons_succ, List.setIfInBounds_toArray, List.set_cons_zero, List.set_cons_succ]
      refine wpAnyH_take (i := 16) (v := .int .i64 p2) rfl (by kernel_rfl) (by kernel_rfl) (by kernel_rfl) (fun _ _ _ h => h) (Or.inl ⟨by rfl, (by intro w' hS; obtain ⟨s0, s1, s2, s3, s4, s5, s6, s7, s8, s9, s10, s11, s12⟩ := hS; go_simp)⟩) hHeld ?_
      simp only [Act.put, List.getElem_toArray, List.getElem_cons_zero, List.getElem_cons_succ, List.setIfInBounds_toArray, List.set_cons_zero, List.set_cons_succ]
      refine wpAnyH_take (i := 17) (v := .pointer (some ⟨nb, no + p2, none⟩)) rfl (by kernel_rfl) (by kernel_rfl) (by kernel_rfl) (fun _ _ _ h => h) (Or.inl ⟨by rfl, (by intro w' hS; obtain ⟨s0, s1, s2, s3, s4, s5, s6, s7, s8, s9, s10, s11, s12⟩ := hS; go_simp)⟩) hHeld ?_
      simp only [Act.put, List.getElem_toArray, List.getElem_cons_zero, List.getElem_cons_succ, List.setIfInBounds_toArray, List.set_cons_zero, List.set_cons_succ]
      refine wpAnyH_take (i := 18) (v := .string s) rfl (by kernel_rfl) (by kernel_rfl) (by kernel_rfl) (fun _ _ _ h => h) (Or.inl ⟨by rfl, (by intro w' hS; obtain ⟨s0, s1, s2, s3, s4, s5, s6, s7, s8, s9, s10, s11, s12⟩ := hS; go_simp)⟩) hHeld ?_
      simp only [Act.put, List.getElem_toArray, List.getElem_cons_zero, List.getElem_cons_succ, List.setIfInBounds_toArray, List.set_cons_zero, List.set_cons_succ]
      refine wpAnyH_take (i := 19) (v := .agg #[.pointer pp, .string s]) rfl (by kernel_rfl) (by kernel_rfl) (by kernel_rfl) (fun _ _ _ h => h) (Or.inl ⟨by rfl, (by intro w' hS; obtain ⟨s0, s1, s2, s3, s4, s5, s6, s7, s8, s9, s10, s11, s12⟩ := hS; go_simp)⟩) hHeld ?_
      simp only [Act.put, List.getElem_toArray, List.getElem_cons_zero, List.getElem_cons_succ, List.setIfInBounds_toArray, List.set_cons_zero, List.set_cons_succ]
      refine wpAnyH_ready (rs := [20]) (by kernel_rfl) (by simp) ?_
      refine AllReadyH.cons rfl (fun K hK => ?_) AllReadyH.nil
      rw [if_pos (by rfl)]
      go_simp
      refine hK.out _ _ ⟨cell_alloc' (W := A.drew) y0 _, cell_alloc' (W := A.drew) y1 _, cell_alloc' (W := A.drew) y2 _, cell_alloc' (W := A.drew) y3 _, cell_alloc' (W := A.drew) y4 _, cell_alloc' (W := A.drew) y5 _, cell_alloc' (W := A.drew) y6 _, cell_alloc' (W := A.drew) y7 _, cell_alloc' (W := A.drew) y8 _, cell_alloc' (W := A.drew) y9 _, cell_alloc' (W := A.drew) y10 _, cell_alloc' (W := A.drew) y11 _, cell_alloc' (W := A.drew) y12 _⟩ (fun hHeld => ?_)
      clear hK K
      try simp only [Act.put, List.getElem_toArray, List.getElem_cons_zero, List.getElem_cons_succ, List.setIfInBounds_toArray, List.set_cons_zero, List.set_cons_succ]
      refine wpAnyH_ready (rs := [21]) (by kernel_rfl) (by simp) ?_
      refine AllReadyH.cons rfl (fun K hK => ?_) AllReadyH.nil
      rw [if_pos (by rfl)]
      go_simp
      have hBn := hid_of (hBd.out.alloc hBd.out.size (.cells #[.pointer pp, .string s] 95))
      have hBm := hid_of (hBe.out.alloc hBe.out.size (.cells #[.pointer pp, .string s] 95))
      refine (hk.out _ _ hBn.out (plc_new _ (PlcAt.keep hBd.out n _ hP.out))).mono ?_
      rintro e W ⟨hb2, ⟨rfl, rfl⟩ | ⟨rfl, n3, pv2, s2, h8, rfl, hp2⟩⟩
      · have hB2 := hid_of (hBm.out.trans (hb2.mono hBm.out.size))
        have hM2 : Hid ((D2.drop (q + 1)).all K0 = R) := by rw [Hid, ← hM.out, hst.out]; simp
        refine hK.out _ _ ⟨stay hb2 (cell_alloc' (W := A.drew) y0 _), stay hb2 (cell_alloc' (W := A.drew) y1 _), stay hb2 (cell_alloc' (W := A.drew) y2 _), stay hb2 (cell_alloc' (W := A.drew) y3 _), stay hb2 (cell_alloc' (W := A.drew) y4 _), stay hb2 (cell_alloc' (W := A.drew) y5 _), stay hb2 (cell_alloc' (W := A.drew) y6 _), stay hb2 (cell_alloc' (W := A.drew) y7 _), stay hb2 (cell_alloc' (W := A.drew) y8 _), stay hb2 (cell_alloc' (W := A.drew) y9 _), stay hb2 (cell_alloc' (W := A.drew) y10 _), stay hb2 (cell_alloc' (W := A.drew) y11 _), stay hb2 (cell_alloc' (W := A.drew) y12 _)⟩ (fun hHeld => ?_)
        clear hK K hb2 hBn hBm hBd hBe hHeld y0 y1 y2 y3 y4 y5 y6 y7 y8 y9 y10 y11 y12
        try simp only [Act.put, List.getElem_toArray, List.getElem_cons_zero, List.getElem_cons_succ, List.setIfInBounds_toArray, List.set_cons_zero, List.set_cons_succ]
        refine wpAnyH_done (by kernel_rfl) ?_ _
        go_wp2_with fail
        go_roundw
        case rel => exact ⟨q + 1, by omega, by go_num, hB2, hM2⟩
        case measure => simp [intOf]; omega
      · exact ⟨rfl, hBn.out.trans (hb2.mono hBn.out.size), .inr ⟨by rw [← hM.out, hst.out]; simp, n3, pv2, s2, h8, rfl, hp2⟩⟩
    · have e : D2.drop q = [] := List.drop_eq_nil_of_le (by rw [hper.out]; omega)
      have hi : ¬ (q : Int) < (L : Int) := by omega
      have hM2 : Hid (R = true) := by rw [Hid, ← hM.out, e]; rfl
      clear hlt e
      go_wp2_with fail
      go_end0
      exact ⟨hBw.out.trans (hBr.out.mono hBw.out.size), .inl ⟨hM2.out, rfl⟩⟩
end Go.Proofs.YtbcfkajcmbckbaaGreatDoor
/-! schema: the matches that named answers, sorted. -/
namespace Go.Proofs.YtbcfkajcmbckbaaGreatDoor
open Go Go.RowKit Go.Stab

set_option maxHeartbeats 1000000 in
set_option maxRecDepth 100000 in
theorem ins_nil (a : Option Addr) (c : Nat) (f : Value) (w : World) : Calls Tryz.prog 110 #[.slice a 0 c, .int .i64 0, .int .i64 0, f] w fun e w' => e = .returned (.tuple #[]) ∧ Below w.heap.size w w' := by
  go_enter Tryz.func110, Tryz.ntmps110
  go_wp2_with fail
  refine wp_loop_rounds 1 ?_
  rw [rounds_succ]
  go_wp2_with fail
  go_end0
  exact ⟨rfl, Below.refl _ _⟩
set_option maxHeartbeats 1000000 in
set_option maxRecDepth 100000 in
theorem stable_nil (a : Option Addr) (c : Nat) (f : Value) (w : World) : Calls Tryz.prog 108 #[.slice a 0 c, .int .i64 0, f] w fun e w' => e = .returned (.tuple #[]) ∧ Below w.heap.size w w' := by
  have hi := fun W => hid_of (ins_nil a c f W)
  go_enter Tryz.func108, Tryz.ntmps108
  go_wp2_with fail
  refine wp_loop_rounds 1 ?_
  rw [rounds_succ]
  go_wp2_with fail
  refine (hi _).out.mono ?_
  rintro e W ⟨rfl, hb⟩
  have hB := hid_of hb
  clear hb hi
  go_wp2_with fail
  refine wp_loop_rounds 1 ?_
  rw [rounds_succ]
  go_wp2_with fail
  go_end0
  exact ⟨rfl, hB.out⟩
set_option maxHeartbeats 1000000 in
set_option maxRecDepth 100000 in
theorem sort_nil (a : Option Addr) (c : Nat) (f : Value) (w : World) : Calls Tryz.prog 105 #[.slice a 0 c, f] w fun e w' => e = .returned (.tuple #[]) ∧ Below w.heap.size w w' := by
  have hi := fun W => hid_of (stable_nil a c f W)
  go_enter Tryz.func105, Tryz.ntmps105
  go_wp2_with fail
  refine (hi _).out.mono ?_
  rintro e W ⟨rfl, hb⟩
  have hB := hid_of hb
  clear hb hi
  go_wp2_with fail
  go_end0
  exact ⟨rfl, hB.out⟩
theorem flatM_cells : ∀ (D : List (Nat × Nat)) (j : Nat) (p : Nat × Nat), D[j]? = some p → (flatM D)[j * 2]? = some (.int .i64 (p.1 : Int)) ∧ (flatM D)[j * 2 + 1]? = some (.int .i64 (p.2 : Int))
  | [], _, _, h => by simp at h
  | q :: D, 0, p, h => by simp at h; subst h; exact ⟨rfl, rfl⟩
  | q :: D, j + 1, p, h => by
    have h2 := flatM_cells D j p (by simpa using h)
    have e : flatM (q :: D) = .int .i64 (q.1 : Int) :: .int .i64 (q.2 : Int) :: flatM D := rfl
    rw [e, show (j + 1) * 2 = j * 2 + 1 + 1 by omega, List.getElem?_cons_succ, List.getElem?_cons_succ, List.getElem?_cons_succ, List.getElem?_cons_succ]
    exact h2
theorem row_e {w : World} {lo b c : Nat} {D : List (Nat × Nat)} (h : Rw w lo 2 (some ⟨b, 0, none⟩) D.length c (flatM D)) (hc : c ≠ 0) : SortM.RowE encM w b D ∧ lo ≤ b := by
  rcases h.pt with h0 | ⟨b', o', e, h1, -, h3, h4⟩
  · exact absurd h0 hc
  · cases e
    refine ⟨fun j p hj => ?_, h1⟩
    obtain ⟨f0, f1⟩ := flatM_cells D j p hj
    have hlt := (List.getElem?_eq_some_iff.1 hj).1
    have hle := h.le
    refine ⟨fun i v hv => ?_, fun i hi => ?_⟩
    · match i, hv with
      | 0, hv => cases hv; have := h4 _ _ f0; rw [Nat.zero_add] at this; exact this
      | 1, hv => cases hv; have := h4 _ _ f1; rw [Nat.zero_add] at this; exact this
      | i + 2, hv => simp [encM] at hv
    · have := h3 (j * 2 + i) (by omega)
      rw [Nat.zero_add] at this
      exact this
theorem mrow_of {w : World} {b : Nat} {D : List (Nat × Nat)} (h : SortM.RowE encM w b D) : MRow w (some ⟨b, 0, none⟩) D := fun j p hj => by
  obtain ⟨h1, -⟩ := h j p hj
  refine ⟨b, 0, rfl, ?_, ?_⟩
  · have := h1 0 (.int .i64 (p.1 : Int)) rfl
    rw [Nat.zero_add]; exact this
  · have := h1 1 (.int .i64 (p.2 : Int)) rfl
    rw [Nat.zero_add]; exact this
/-- What named answers, sorted. -/
theorem named_sorted {w w' : World} {ns ms : List ByteArray} {a : Option Addr} {k c : Nat} (h : NamedSt w ns ms ms.length a k c w') (hn : k ≤ 1152921504606846976) :
    Calls Tryz.prog 105 #[.slice a k c, .func (.func 106) #[] #[]] w' fun e w2 => e = .returned (.tuple #[]) ∧ Below w.heap.size w' w2 ∧ MRow w2 a (isort ltM (matchesT ns ms ms.length)) := by
  have hk := h.len
  rcases Nat.eq_zero_or_pos k with h0 | hpos
  · have e : matchesT ns ms ms.length = [] := List.eq_nil_of_length_eq_zero (by omega)
    rw [e, h0]
    refine (sort_nil a c _ w').mono fun e w2 ⟨h1, h2⟩ => ⟨h1, h2.mono h.below.size, fun j p hj => ?_⟩
    simp [isort] at hj
  · have hcp : c ≠ 0 := by have := h.row.le; omega
    rcases h.row.pt with hc | ⟨b, o, e, hlo, -⟩
    · exact absurd hc hcp
    · have ho := h.off b o e
      subst ho
      subst e
      have hr := h.row
      rw [hk] at hr
      obtain ⟨hE, -⟩ := row_e hr hcp
      rw [hk]
      refine (matches_sort b _ c w' hE (SortM.But.refl b w') (by omega)).mono fun e w2 ⟨h1, h2, h3⟩ => ⟨h1, ⟨h3.os, h3.tape, h3.output, h3.size, fun k2 hk2 => h3.block k2 (by have := h.below.size; omega) (by omega)⟩, mrow_of h2⟩
end Go.Proofs.YtbcfkajcmbckbaaGreatDoor
/-! schema: properties of any schema are sought in any value. -/
namespace Go.Proofs.YtbcfkajcmbckbaaGreatDoor
open Go Go.RowKit Go.Stab

/-- A schema is sought in every value, at a place of n steps. -/
def SeeksOk (w0 : World) (t : Tr) (n : Nat) : Prop := ∀ (x : Tr) (u : V5) (w : World) (a : Option Addr) (c : Nat) (S : Nat → Prop) (o : Option Nat), RowR w0 (besideN t) w S a t.names t.items → Below w0.heap.size w0 w → VRep w x u.cs → SmallT x → PlcAt w n (.pointer (o.map fun b => ⟨b, 0, none⟩)) →
  Calls Tryz.prog 24 #[.slice a t.items.length c, u.v, .pointer (o.map fun b => ⟨b, 0, none⟩)] w (SeekZ (keepsT t x) w)
set_option maxHeartbeats 1000000 in
theorem named_not (mp : Value) (sa : Option Addr) (sl sc : Nat) (u : V5) (w : World) (h6 : u.k ≠ 6) :
    Calls Tryz.prog 104 #[.agg #[mp, .slice sa sl sc], u.v] w fun e w' => e = .returned (.slice none 0 0) ∧ Below w.heap.size w w' := by
  have hb0 := (Below.refl _ w).alloc (Nat.le_refl _) (.cells #[mp, .slice sa sl sc] 112)
  have hb := hid_of (hb0.alloc hb0.size (u.obj 25))
  obtain ⟨x0, x1, x2, x3, x4, -⟩ := row_cells (heap_alloc_new (w.alloc (.cells #[mp, .slice sa sl sc] 112)) (u.obj 25))
  rw [World.size_alloc] at x0 x1 x2 x3 x4
  have e6 : (u.k != 6) = true := by simp [h6]
  unfold V5.obj at *
  unfold V5.v at *
  go_enter Tryz.func104, Tryz.ntmps104
  go_wp2_with fail
  go_ret
  exact ⟨rfl, hb.out⟩
set_option maxHeartbeats 1000000 in
theorem props_seek_other (mp : Value) (sa : Option Addr) (sl sc : Nat) (u : V5) (n : Nat) (o : Option Nat) (w : World) (h6 : u.k ≠ 6) (hsl : sl ≤ 1759218604390) (hli : u.li ≤ 1759218604390) (hP : PlcAt w n (.pointer (o.map fun b => ⟨b, 0, none⟩))) :
    Calls Tryz.prog 103 #[.agg #[mp, .slice sa sl sc], u.v, .pointer (o.map fun b => ⟨b, 0, none⟩)] w (SeekZ true w) :=
  props_seek_any mp sa sl sc u n o w [] [] (fun _ => true) (by decide) hsl hli rfl rfl hP
    (fun W hW => (named_not mp sa sl sc u W h6).mono fun e w' ⟨h1, h2⟩ => ⟨none, 0, h1, h2, (sort_nil none 0 _ w').mono fun e w2 ⟨k1, k2⟩ => ⟨k1, k2.mono h2.size, fun j p hj => by simp at hj⟩⟩)
    (fun p hp => by simp at hp)
theorem props_seek_obj (w0 : World) (mb : Nat) (a : Option Addr) (c : Nat) (ns : List ByteArray) (its : List Tr) (n : Nat) (hO : ∀ t ∈ its, SeeksOk w0 t (n + 1)) (x : Tr) (u : V5) (w : World) (S : Nat → Prop) (o : Option Nat) (hN : NumsAt w mb ns.length (numsD ns)) (hnn : ns.length = its.length) (hR : RowS w0 w S a its) (hB : Below w0.heap.size w0 w) (hV : VRep w x u.cs) (hS : SmallT x) (hk6 : u.k = 6) (hsl : its.length ≤ 1759218604390) (hP : PlcAt w n (.pointer (o.map fun b => ⟨b, 0, none⟩))) :
    Calls Tryz.prog 103 #[.agg #[.map (some mb), .slice a its.length c], u.v, .pointer (o.map fun b => ⟨b, 0, none⟩)] w (SeekZ ((matchesT ns (mbrsT x) (mbrsT x).length).all (matchK its x)) w) := by
  obtain ⟨hrow, hli⟩ := rep_row hV
  obtain ⟨hnam, hnl⟩ := rep_names hV
  have hsm := small_parts hS
  have hml : (mbrsT x).length = min x.names.length x.items.length := by unfold mbrsT; rw [List.length_take]; omega
  have hle := matches_le ns (mbrsT x) (mbrsT x).length
  have hpm := isort_perm ltM (matchesT ns (mbrsT x) (mbrsT x).length)
  refine props_seek_any (.map (some mb)) a its.length c u n o w _ (isort ltM (matchesT ns (mbrsT x) (mbrsT x).length)) (matchK its x) (by omega) hsl (by omega) hpm.length_eq (List.Perm.all_eq hpm) hP ?_ ?_
  · intro W hW
    refine (named_any mb a its.length c ns x u W (hN.keep (hW.block _ hN.lt)) (VRep.keep hW _ _ hV) hS hk6).mono fun e w' => ?_
    rintro ⟨a2, k, c2, rfl, h⟩
    have hk := h.len
    have hs := named_sorted h (by omega)
    rw [hk] at hs ⊢
    exact ⟨a2, c2, rfl, h.below, hs⟩
  · intro p hp
    obtain ⟨q, hq⟩ := List.mem_iff_getElem?.1 (hpm.mem_iff.1 hp)
    obtain ⟨hp1, hp2⟩ := matches_at hq
    have hp1i : p.1 < its.length := by omega
    have hp2i : p.2 < x.items.length := by omega
    have hp2n : p.2 < x.names.length := by omega
    have ht : its[p.1]? = some its[p.1] := List.getElem?_eq_getElem hp1i
    have hy : x.items[p.2]? = some x.items[p.2] := List.getElem?_eq_getElem hp2i
    have hs : x.names[p.2]? = some x.names[p.2] := List.getElem?_eq_getElem hp2n
    have hmk : matchK its x p = keepsT its[p.1] x.items[p.2] := by
      unfold matchK
      rw [List.getD_eq_getElem?_getD, List.getD_eq_getElem?_getD, ht, hy]; rfl
    obtain ⟨bS, oS, hae, hbS, hSL⟩ := hR.resolve_left (by intro e; rw [e] at hp1i; simp at hp1i)
    obtain ⟨at', ct, s0, hrt⟩ := SchemasL.at hSL ht
    obtain ⟨gi, oi, hai, hgi, hVL⟩ := hrow.resolve_left (by intro e; rw [e] at hp2i; simp at hp2i)
    obtain ⟨cs, hCs, hr⟩ := VRepL.at x.items oi p.2 _ hVL hy
    obtain ⟨v, rfl⟩ := vrep_v5 hr
    unfold V5.cs five at hCs
    obtain ⟨an', cn', e2, hc, h0⟩ := hnam
    simp only [Value.slice.injEq] at e2
    obtain ⟨e3, -, e4⟩ := e2
    obtain ⟨gn, on, e5, hgn, hA⟩ := h0.resolve_left (by intro e; rw [e] at hp2n; simp at hp2n)
    rw [← e3] at e5
    refine ⟨hp1i, by omega, by omega, bS, oS, gn, on, gi, oi, at', _, ct, _, v, hae, s0, e5, hA p.2 _ hs, hai, hCs 0 _ rfl, hCs 1 _ rfl, hCs 2 _ rfl, hCs 3 _ rfl, hCs 4 _ rfl, fun W pb hW hpl => ?_⟩
    rw [hmk]
    exact hO _ (List.mem_of_getElem? ht) x.items[p.2] v W at' ct S (some pb) (hrt.later hW) (hB.trans (hW.mono hB.size)) (VRep.keep hW _ _ hr) (SmallL.at hsm.2.2.2.1 hy) hpl
end Go.Proofs.YtbcfkajcmbckbaaGreatDoor
/-! schema: every rule of every schema, sought in every value. -/
namespace Go.Proofs.YtbcfkajcmbckbaaGreatDoor
open Go Go.RowKit

def GoodD (d : Nat) (t : Tr) : Prop := ∃ n, (schemaS d n t).2 = 0
def GoodRD (d j : Nat) (t : Tr) : Prop := ∃ n, (ruleS d n j t).2 = 0
theorem good_listD : {its : List Tr} → {d n : Nat} → (listS d n its).2 = 0 → ∀ t ∈ its, GoodD d t
  | [], _, _, _, _, h => by simp at h
  | u :: us, d, n, h0, t, ht => by
    rw [listS_cons] at h0
    by_cases h : (schemaS d n u).2 = 0
    · rw [if_pos h] at h0
      rcases List.mem_cons.1 ht with rfl | ht
      · exact ⟨n, h⟩
      · exact good_listD h0 t ht
    · rw [if_neg h] at h0; exact absurd h0 h
theorem good_membersD : {its : List Tr} → {ns : List ByteArray} → {d n q : Nat} → {t : Tr} → (membersS d n ns its).2 = 0 → its[q]? = some t → GoodRD d (wordNo (ns.getD q noS)) t
  | [], _, _, _, _, _, _, h => by simp at h
  | u :: us, ns, d, n, q, t, h0, ht => by
    rw [membersS] at h0
    split at h0
    · cases h0
    · by_cases h : (ruleS d (n + 1) (wordNo (ns.headD noS)) u).2 = 0
      · rw [if_pos h] at h0
        cases q with
        | zero =>
          have e : u = t := by simpa using ht
          subst e
          refine ⟨n + 1, ?_⟩
          cases ns <;> exact h
        | succ q =>
          have := good_membersD h0 (q := q) (by simpa using ht)
          cases ns with
          | nil => simpa using this
          | cons a ns => simpa using this
      · rw [if_neg h] at h0; exact absurd h0 h
theorem all_range (L : List Tr) (f : Tr → Bool) : L.all f = (List.range L.length).all fun q => f (L.getD q zeroT) := by
  induction L with
  | nil => rfl
  | cons t ts ih => rw [List.length_cons, List.range_succ_eq_map, List.all_cons, List.all_cons, List.all_map, ih]; rfl
theorem items_sought (w0 : World) (hIt : ItoaIn w0) (t : Tr) (np : Nat) (hO : SeeksOk w0 t (np + 1)) (x : Tr) (u : V5) (w : World) (a : Option Addr) (c : Nat) (S : Nat → Prop) (o : Option Nat) (hR : RowR w0 (besideN t) w S a t.names t.items) (hB : Below w0.heap.size w0 w) (hV : VRep w x u.cs) (hS : SmallT x) (hP : PlcAt w np (.pointer (o.map fun b => ⟨b, 0, none⟩))) :
    Calls Tryz.prog 116 #[.slice a t.items.length c, u.v, .pointer (o.map fun b => ⟨b, 0, none⟩)] w (SeekZ (!(x.kind == 5) || x.items.all (fun y => keepsT t y)) w) := by
  have hkd := (vrep_head hV).1
  obtain ⟨hrow, hli⟩ := rep_row hV
  have hsm := small_parts hS
  rw [hkd, all_range, ← hli]
  refine items_seek (.slice a t.items.length c) u np o w (hIt.later hB) (fun q => keepsT t (x.items.getD q zeroT)) (by omega) hP (hid_of fun _ q hq => ?_)
  have hqi : q < x.items.length := by omega
  have hy : x.items[q]? = some x.items[q] := List.getElem?_eq_getElem hqi
  have hg : x.items.getD q zeroT = x.items[q] := by rw [List.getD_eq_getElem?_getD, hy]; rfl
  obtain ⟨gi, oi, hai, hgi, hVL⟩ := hrow.resolve_left (by intro e; rw [e] at hqi; simp at hqi)
  obtain ⟨cs, hCs, hr⟩ := VRepL.at x.items oi q _ hVL hy
  obtain ⟨v, rfl⟩ := vrep_v5 hr
  unfold V5.cs five at hCs
  refine ⟨gi, oi, v, hai, hCs 0 _ rfl, hCs 1 _ rfl, hCs 2 _ rfl, hCs 3 _ rfl, hCs 4 _ rfl, fun W pb hW hpl => ?_⟩
  rw [hg]
  exact hO x.items[q] v W a c S (some pb) (hR.later hW) (hB.trans (hW.mono hB.size)) (VRep.keep hW _ _ hr) (SmallL.at hsm.2.2.2.1 hy) hpl
theorem rule_rs (hReq : ReqOk) (hChr : ChrOk) (w0 w : World) (hIt : ItoaIn w0) (bn : List ByteArray) (S : Nat → Prop) (j : Nat) (t : Tr) (r : Value) (x : Tr) (u : V5) (h : RuleR w0 bn w S j t r) (hj : j < 16) (dd np : Nat) (o : Option Nat) (hg : GoodRD dd j t) (hn : NamesT t) (hs : SmallT t) (hB : Below w0.heap.size w0 w) (hV : VRep w x u.cs) (hS : SmallT x) (hOt : Good t → KeepsOk w0 t) (hOs : ∀ t' ∈ t.items, Good t' → KeepsOk w0 t') (hQt : GoodD (dd + 1) t → SeeksOk w0 t (np + 1)) (hQs : ∀ t' ∈ t.items, GoodD (dd + 1) t' → SeeksOk w0 t' (np + 1)) (hP : PlcAt w np (.pointer (o.map fun b => ⟨b, 0, none⟩))) : RS w u (.pointer (o.map fun b => ⟨b, 0, none⟩)) r (keepsR bn j t x) := by
  obtain ⟨n, hg⟩ := hg
  have hkd := (vrep_head hV).1
  obtain ⟨hrow, hli⟩ := rep_row hV
  have hsm := small_parts hs
  rw [keeps_pos]
  rw [rule_pos] at hg
  have hpl : PlainR w0 bn w S j t r ∧ (j = 3 → ∃ m a c, r = .iface 112 (.agg #[.map (some m), .slice a t.items.length c]) ∧ S m ∧ NumsAt w m t.names.length (numsD t.names) ∧ RowS w0 w S a t.items) ∧ (j = 5 ∨ j = 15 → ∃ a c, r = .iface (if j = 5 then 117 else 124) (.slice a t.items.length c) ∧ RowR w0 (besideN t) w S a t.names t.items) ∧ (j = 13 ∨ j = 14 → ∃ a c, r = .iface (if j = 13 then 122 else 123) (.slice a t.items.length c) ∧ RowS w0 w S a t.items) := by
    obtain ⟨k, x, s, ns, its⟩ := t
    unfold RuleR at h
    exact ⟨h.2.2.2.2, h.2.1, h.2.2.1, h.2.2.2.1⟩
  obtain ⟨hp, h3, h5, h13⟩ := hpl
  obtain ⟨p0, p1, p2, p4, p6⟩ := hp
  clear h
  by_cases j3 : j = 3
  · subst j3
    rw [if_pos rfl]
    simp only [Nat.reduceEqDiff, if_false, if_true] at hg
    obtain ⟨m, a, c, rfl, -, hN, hR⟩ := h3 rfl
    by_cases hk : t.kind = 6
    · rw [if_pos hk] at hg
      have hnn := (names_parts hn).1 hk
      rw [matches_all _ _ _ _ hnn]
      refine ⟨_, .inr (.inr (.inr (.inl ⟨rfl, ?_⟩)))⟩
      by_cases h6 : u.k = 6
      · rw [show (!(x.kind == 6)) = false by rw [hkd, h6]; rfl, Bool.false_or]
        exact props_seek_obj w0 m a c t.names t.items np (fun t' ht' => hQs t' ht' (good_listD hg t' ht')) x u w S o hN hnn hR hB hV hS h6 (small_parts hs).1 hP
      · rw [show (!(x.kind == 6)) = true by rw [hkd]; simp [h6], Bool.true_or]
        exact props_seek_other _ a _ c u np o w h6 (small_parts hs).1 (by have := (small_parts hS).1; omega) hP
    · rw [if_neg hk] at hg; cases hg
  rw [if_neg j3]
  by_cases j5 : j = 5
  · subst j5
    rw [if_pos rfl]
    simp only [Nat.reduceEqDiff, if_false, true_or, if_true] at hg
    obtain ⟨a, c, rfl, hR⟩ := h5 (.inl rfl)
    exact ⟨_, .inr (.inr (.inr (.inr (.inr (.inl ⟨rfl, items_sought w0 hIt t np (hQt ⟨_, hg⟩) x u w a c S o hR hB hV hS hP⟩)))))⟩
  rw [if_neg j5]
  by_cases j15 : j = 15
  · subst j15
    rw [if_pos rfl]
    simp only [Nat.reduceEqDiff, if_false, or_true, if_true] at hg
    obtain ⟨a, c, rfl, hR⟩ := h5 (.inr rfl)
    exact ⟨_, .inr (.inr (.inr (.inr (.inr (.inr (.inr (.inr (.inr (.inr (.inr ⟨rfl, not_keeps w0 t (hOt ⟨_, _, hg⟩) x u w a c S hR hB hV hS⟩))))))))))⟩
  rw [if_neg j15]
  by_cases j13 : j = 13
  · subst j13
    rw [if_pos rfl]
    simp only [Nat.reduceEqDiff, if_false, or_self, true_or, if_true] at hg
    obtain ⟨a, c, rfl, hR⟩ := h13 (.inl rfl)
    by_cases hk : t.kind = 5 ∧ t.items ≠ []
    · rw [if_pos hk] at hg
      rw [keepsAny_eq]
      exact ⟨_, .inr (.inr (.inr (.inr (.inr (.inr (.inr (.inr (.inr (.inl ⟨rfl, anyOf_keeps w0 t.items (hid_of fun t' ht' => hOs t' ht' (good_list hg t' ht')) x u w a c S hR hB hV hS hsm.1⟩)))))))))⟩
    · rw [if_neg hk] at hg; cases hg
  rw [if_neg j13]
  by_cases j14 : j = 14
  · subst j14
    rw [if_pos rfl]
    simp only [Nat.reduceEqDiff, if_false, or_self, or_true, if_true] at hg
    obtain ⟨a, c, rfl, hR⟩ := h13 (.inr rfl)
    by_cases hk : t.kind = 5 ∧ t.items ≠ []
    · rw [if_pos hk] at hg
      rw [keepsAll_eq, List.all_eq_not_any_not]
      exact ⟨_, .inr (.inr (.inr (.inr (.inr (.inr (.inr (.inr (.inr (.inr (.inl ⟨rfl, allOf_keeps w0 t.items (hid_of fun t' ht' => hOs t' ht' (good_list hg t' ht')) x u w a c S hR hB hV hS hsm.1⟩))))))))))⟩
    · rw [if_neg hk] at hg; cases hg
  rw [if_neg j14]
  unfold plainK
  by_cases j0 : j = 0
  · subst j0
    rw [if_pos rfl]
    have hv := p0 rfl
    unfold TypesV at hv
    subst hv
    rw [hkd]
    exact ⟨_, .inl ⟨rfl, types_keeps _ u w⟩⟩
  rw [if_neg j0]
  by_cases j1 : j = 1
  · subst j1
    rw [if_pos rfl]
    obtain ⟨a, c, rfl, hR⟩ := p1 rfl
    exact ⟨_, .inr (.inl ⟨rfl, enum_keeps t.items x u w a c (hR.keep hB) hsm.2.2.2.1 hV hsm.1⟩)⟩
  rw [if_neg j1]
  by_cases j2 : j = 2
  · subst j2
    rw [if_pos rfl]
    obtain ⟨m, rfl, -, hN⟩ := p2 rfl
    exact ⟨_, .inr (.inr (.inl ⟨rfl, hReq m t.items x u w hN hsm.2.2.2.1 hsm.1 hV hS⟩))⟩
  rw [if_neg j2]
  by_cases j4 : j = 4
  · subst j4
    rw [if_pos rfl]
    obtain ⟨mo, rfl, hm⟩ := p4 rfl
    have e : (t.kind == 2) = decide (t.kind = 2) := by by_cases h : t.kind = 2 <;> simp [h]
    rw [e]
    refine ⟨_, .inr (.inr (.inr (.inr (.inl ⟨rfl, additional_keeps (decide (t.kind = 2)) mo bn x u w hV hS fun hf => ?_⟩))))⟩
    obtain ⟨m, h1, -, h2⟩ := hm (by simpa using hf)
    exact ⟨m, h1, h2⟩
  rw [if_neg j4]
  have h6 : 6 ≤ j := by omega
  have h12 : j ≤ 12 := by omega
  have hr := p6 h6 h12
  have hxi : x.int = u.x := vrep_int hV
  subst hr
  rcases bnd_cases h6 h12 with rfl | rfl | rfl | rfl | rfl | rfl | rfl
  · rw [if_pos rfl, hkd, ← hli]
    exact ⟨_, .inr (.inr (.inr (.inr (.inr (.inr (.inl ⟨rfl, keeps_items_least _ u w⟩))))))⟩
  · rw [if_neg (by decide), if_pos rfl, hkd, ← hli]
    exact ⟨_, .inr (.inr (.inr (.inr (.inr (.inr (.inl ⟨rfl, keeps_items_most _ u w⟩))))))⟩
  · rw [if_neg (by decide), if_neg (by decide), if_pos rfl]
    exact ⟨_, .inr (.inr (.inr (.inr (.inr (.inr (.inr (.inl ⟨rfl, hChr 8 t.int x u w (.inl rfl) hV hS⟩)))))))⟩
  · rw [if_neg (by decide), if_neg (by decide), if_neg (by decide), if_pos rfl]
    exact ⟨_, .inr (.inr (.inr (.inr (.inr (.inr (.inr (.inl ⟨rfl, hChr 9 t.int x u w (.inr rfl) hV hS⟩)))))))⟩
  · rw [if_neg (by decide), if_neg (by decide), if_neg (by decide), if_neg (by decide), if_pos rfl, hkd, hxi]
    exact ⟨_, .inr (.inr (.inr (.inr (.inr (.inr (.inr (.inr (.inl ⟨rfl, keeps_int_least _ u w⟩))))))))⟩
  · rw [if_neg (by decide), if_neg (by decide), if_neg (by decide), if_neg (by decide), if_neg (by decide), if_pos rfl, hkd, hxi]
    exact ⟨_, .inr (.inr (.inr (.inr (.inr (.inr (.inr (.inr (.inl ⟨rfl, keeps_int_most _ u w⟩))))))))⟩
  · rw [if_neg (by decide), if_neg (by decide), if_neg (by decide), if_neg (by decide), if_neg (by decide), if_neg (by decide), if_pos rfl, hkd, hxi]
    have h1 : 1 ≤ t.int := by
      simp only [Nat.reduceEqDiff, if_false, or_self] at hg
      have hlo : leastOf 12 = 1 := by decide
      rw [hlo] at hg
      by_cases hc : t.kind = 3 ∧ 1 ≤ t.int
      · exact hc.2
      · rw [if_neg hc] at hg; cases hg
    exact ⟨_, .inr (.inr (.inr (.inr (.inr (.inr (.inr (.inr (.inl ⟨rfl, keeps_int_div _ h1 u w⟩))))))))⟩
end Go.Proofs.YtbcfkajcmbckbaaGreatDoor
/-! schema: every schema is sought in every value. -/
namespace Go.Proofs.YtbcfkajcmbckbaaGreatDoor
open Go Go.RowKit

set_option maxRecDepth 100000 in
/-- Every schema that stands d deep is sought at any place of no more steps. -/
theorem seeksOk (w0 : World) (hIt : ItoaIn w0) (t : Tr) (d np : Nat) (hdn : np ≤ d) (hg : GoodD d t) (hn : NamesT t) (hs : SmallT t) : SeeksOk w0 t np := by
  intro x u w a c S o hR hB hV hS hP
  obtain ⟨n, hg⟩ := hg
  have hnp := names_parts hn
  have hsp := small_parts hs
  have hmem : d ≤ 8 ∧ (membersS d n t.names t.items).2 = 0 := by
    unfold schemaS at hg
    by_cases hk : t.kind = 6
    · rw [if_pos hk] at hg
      by_cases hd : 8 < d
      · rw [if_pos hd] at hg; cases hg
      · rw [if_neg hd] at hg; exact ⟨by omega, hg⟩
    · rw [if_neg hk] at hg; cases hg
  unfold keepsT
  rw [keepsL_range]
  obtain ⟨hd8, hmem⟩ := hmem
  refine rules_seek t.items.length a c u np o w _ hsp.1 (by omega) hP (hid_of fun q hq => ?_)
  obtain ⟨t', ht'⟩ : ∃ t', t.items[q]? = some t' := ⟨_, List.getElem?_eq_getElem hq⟩
  obtain ⟨b, oo, rfl, hSb, hL⟩ := hR.resolve_left (by intro e; rw [e] at hq; simp at hq)
  obtain ⟨h1, r, h2, h3⟩ := RulesL.at hL ht'
  have hgr := good_membersD hmem ht'
  have hj : wordNo (t.names.getD q noS) < 16 := by
    have h16 := wordNo_le (t.names.getD q noS)
    rcases Nat.lt_or_ge (wordNo (t.names.getD q noS)) 16 with h | h
    · exact h
    · have e : wordNo (t.names.getD q noS) = 16 := by omega
      rw [e] at hgr
      obtain ⟨n', h⟩ := hgr
      rw [rule_pos] at h
      simp at h
  have hit : t.items.getD q zeroT = t' := by rw [List.getD_eq_getElem?_getD, ht']; rfl
  have hm := List.mem_of_getElem? ht'
  have hn' := hnp.2.at ht'
  have hs' := SmallL.at hsp.2.2.2.1 ht'
  have hd1 : SizeOf.sizeOf t' < SizeOf.sizeOf t := by
    have h1 : SizeOf.sizeOf t' < SizeOf.sizeOf t.items := List.sizeOf_lt_of_mem hm
    have h2 : SizeOf.sizeOf t.items < SizeOf.sizeOf t := by obtain ⟨k, x, s, ns, its⟩ := t; simp only [Tr.items, Tr.node.sizeOf_spec]; omega
    omega
  refine ⟨b, oo, _, r, rfl, h1, h2, RuleR.some h3, fun W hW => ?_⟩
  rw [hit]
  refine rule_rs req_ok chrOk w0 W hIt _ S _ t' r x u (RuleR.keep (kept_below hW) (fun _ h => h) _ _ _ h3) hj d np o hgr hn' hs' (hB.trans (hW.mono hB.size)) (VRep.keep hW _ _ hV) hS (fun hg' => keeps_all w0 t' hg' hn' hs') (fun t'' ht'' hg'' => ?_) (fun hg' => seeksOk w0 hIt t' (d + 1) (np + 1) (by omega) hg' hn' hs') (fun t'' ht'' hg'' => ?_) (PlcAt.keep hW np _ hP)
  · obtain ⟨i, hi, he⟩ := List.getElem_of_mem ht''
    have hi2 : t'.items[i]? = some t'' := by rw [List.getElem?_eq_getElem hi, he]
    exact keeps_all w0 t'' hg'' ((names_parts hn').2.at hi2) (SmallL.at (small_parts hs').2.2.2.1 hi2)
  have hq2 : SizeOf.sizeOf t'' < SizeOf.sizeOf t' := by
    have h1 : SizeOf.sizeOf t'' < SizeOf.sizeOf t'.items := List.sizeOf_lt_of_mem ht''
    have h2 : SizeOf.sizeOf t'.items < SizeOf.sizeOf t' := by obtain ⟨k, x, s, ns, its⟩ := t'; simp only [Tr.items, Tr.node.sizeOf_spec]; omega
    omega
  obtain ⟨i, hi, he⟩ := List.getElem_of_mem ht''
  have hi2 : t'.items[i]? = some t'' := by rw [List.getElem?_eq_getElem hi, he]
  exact seeksOk w0 hIt t'' (d + 1) (np + 1) (by omega) hg'' ((names_parts hn').2.at hi2) (SmallL.at (small_parts hs').2.2.2.1 hi2)
termination_by SizeOf.sizeOf t
decreasing_by all_goals omega
end Go.Proofs.YtbcfkajcmbckbaaGreatDoor
/-! schema: the whole of a value is sought. -/
namespace Go.Proofs.YtbcfkajcmbckbaaGreatDoor
open Go Go.RowKit

set_option maxHeartbeats 2000000 in
set_option maxRecDepth 100000 in
theorem fault_call (b2 b3 sb : Nat) (a : Option Addr) (l c : Nat) (u : V5) (z : Bool) (w : World) (hk : Calls Tryz.prog 24 #[.slice a l c, u.v, .pointer none] w.drew (SeekZ z w.drew)) (h0 : w.cell? ⟨sb, 0, none⟩ = some (.slice a l c)) (h2 : w.cell? ⟨b2, 0, none⟩ = some (.pointer (some ⟨sb, 0, none⟩))) (h3 : w.heap[b3]? = some (u.obj 25)) :
    Calls Tryz.prog 23 #[.pointer (some ⟨b2, 0, none⟩), .pointer (some ⟨b3, 0, none⟩)] w (SeekZ z w) := by
  have w0 : w.drew.cell? ⟨sb, 0, none⟩ = some (.slice a l c) := h0
  have w2 : w.drew.cell? ⟨b2, 0, none⟩ = some (.pointer (some ⟨sb, 0, none⟩)) := h2
  have hBd := hid_of (below_drew (Below.refl w.heap.size w))
  replace hk := hid_of hk
  unfold V5.v V5.obj at *
  obtain ⟨y0, y1, y2, y3, y4, -⟩ := row_cells (w := w.drew) h3
  clear h0 h2 h3
  go_enter Tryz.func23, Tryz.ntmps23
  go_upto_region 0 with fail
  refine wp_region_held_drew (S := (fun V => V.cell? ⟨sb, 0, none⟩ = some (.slice a l c) ∧ V.cell? ⟨b2, 0, none⟩ = some (.pointer (some ⟨sb, 0, none⟩)) ∧ V.cell? ⟨b3, 0, none⟩ = some (.int .i64 u.k) ∧ V.cell? ⟨b3, 1, none⟩ = some (.int .i64 u.x) ∧ V.cell? ⟨b3, 2, none⟩ = some (.string u.s) ∧ V.cell? ⟨b3, 3, none⟩ = some (.slice u.an u.ln u.cn) ∧ V.cell? ⟨b3, 4, none⟩ = some (.slice u.ai u.li u.ci))) (by kernel_rfl) ⟨w0, w2, y0, y1, y2, y3, y4⟩ (fun hHeld => ?_)
  refine wpAnyH_take (i := 0) (v := .pointer (some ⟨sb, 0, none⟩)) rfl (by kernel_rfl) (by kernel_rfl) (by kernel_rfl) (fun _ _ _ h => h) (Or.inl ⟨by rfl, (by intro w' hS; obtain ⟨s1, s2, s3, s4, s5, s6, s7⟩ := hS; go_simp)⟩) hHeld ?_
  simp only [Act.put, List.getElem_toArray, List.getElem_cons_zero, List.setIfInBounds_toArray, List.set_cons_zero, List.set_cons_succ]
  refine wpAnyH_take (i := 1) (v := .pointer (some ⟨sb, 0, none⟩)) rfl (by kernel_rfl) (by kernel_rfl) (by kernel_rfl) (fun _ _ _ h => h) (Or.inl ⟨by rfl, (by intro w' hS; obtain ⟨s1, s2, s3, s4, s5, s6, s7⟩ := hS; go_simp)⟩) hHeld ?_
  simp only [Act.put, List.getElem_toArray, List.getElem_cons_zero, List.getElem_cons_succ, List.setIfInBounds_toArray, List.set_cons_zero, List.set_cons_succ]
  refine wpAnyH_take (i := 2) (v := .pointer (some ⟨sb, 0, none⟩)) rfl (by kernel_rfl) (by kernel_rfl) (by kernel_rfl) (fun _ _ _ h => h) (Or.inl ⟨by rfl, (by intro w' hS; obtain ⟨s1, s2, s3, s4, s5, s6, s7⟩ := hS; go_simp)⟩) hHeld ?_
  simp only [Act.put, List.getElem_toArray, List.getElem_cons_zero, List.getElem_cons_succ, List.setIfInBounds_toArray, List.set_cons_zero, List.set_cons_succ]
  refine wpAnyH_take (i := 3) (v := .slice a l c) rfl (by kernel_rfl) (by kernel_rfl) (by kernel_rfl) (fun _ _ _ h => h) (Or.inl ⟨by rfl, (by intro w' hS; obtain ⟨s1, s2, s3, s4, s5, s6, s7⟩ := hS; go_simp)⟩) hHeld ?_
  simp only [Act.put, List.getElem_toArray, List.getElem_cons_zero, List.getElem_cons_succ, List.setIfInBounds_toArray, List.set_cons_zero, List.set_cons_succ]
  refine wpAnyH_take (i := 4) (v := .agg #[.int .i64 u.k, .int .i64 u.x, .string u.s, .slice u.an u.ln u.cn, .slice u.ai u.li u.ci]) rfl (by kernel_rfl) (by kernel_rfl) (by kernel_rfl) (fun _ _ _ h => h) (Or.inl ⟨by rfl, (by intro w' hS; obtain ⟨s1, s2, s3, s4, s5, s6, s7⟩ := hS; go_simp)⟩) hHeld ?_
  simp only [Act.put, List.getElem_toArray, List.getElem_cons_zero, List.getElem_cons_succ, List.setIfInBounds_toArray, List.set_cons_zero, List.set_cons_succ]
  refine wpAnyH_ready (rs := [5]) (by kernel_rfl) (by simp) ?_
  refine AllReadyH.cons rfl (fun K hK => ?_) ?_
  · rw [if_pos (by rfl)]
    go_simp
    refine hk.out.mono ?_
    rintro e W3 ⟨hb2, ⟨hz, rfl⟩ | ⟨hz, n2, pv2, s2, h8, rfl, hp2⟩⟩
    · refine hK.out _ _ ⟨stay hb2 w0, stay hb2 w2, stay hb2 y0, stay hb2 y1, stay hb2 y2, stay hb2 y3, stay hb2 y4⟩ (fun hHeld => ?_)
      have hB2 := hid_of (hBd.out.trans (hb2.mono hBd.out.size))
      clear hK K hHeld hb2 w0 w2 y0 y1 y2 y3 y4 hBd
      try simp only [Act.put, List.getElem_toArray, List.getElem_cons_zero, List.getElem_cons_succ, List.setIfInBounds_toArray, List.set_cons_zero, List.set_cons_succ]
      refine wpAnyH_done (by kernel_rfl) ?_ _
      go_wp2_with fail
      go_end0
      exact ⟨hB2.out, .inl ⟨hz, rfl⟩⟩
    · exact ⟨rfl, hBd.out.trans (hb2.mono hBd.out.size), .inr ⟨hz, n2, pv2, s2, h8, rfl, hp2⟩⟩
  exact AllReadyH.nil
end Go.Proofs.YtbcfkajcmbckbaaGreatDoor
/-! schema: caught, of any schema and any value. -/
namespace Go.Proofs.YtbcfkajcmbckbaaGreatDoor
open Go Go.RowKit

set_option maxHeartbeats 1000000 in
set_option maxRecDepth 100000 in
theorem catch_idle (p q : Addr) (w : World) :
    CallsD Tryz.prog 47 #[.pointer (some p), .pointer (some q)] .returning w fun e u' w' => e = .returned (.tuple #[]) ∧ u' = .returning ∧ w' = w := by
  refine callsD_of_wpS Tryz.func47 rfl fun c₀ cs hu => ?_
  apply wpS_seq
  apply wpS_region
  simp [wpOpsS, go_sem, recoverD, hu, Tryz.ntmps47, Exit.thenS]
  refine wpS_of_wp ?_
  go_wp2
  cases c₀
  simp_all [bodyPostS, results, Tryz.results47]
theorem PlcAt.but {w w' : World} {pb pk : Nat} {p : Value} {s : ByteArray} {x0 x1 y0 : Value} (hC : CaughtB pb pk p s w w') (cb : w.heap[pb]? = some (.cells #[x0, x1] 65 (0, 0))) (ck : w.heap[pk]? = some (.cells #[y0] 4 (0, 0))) : (n : Nat) → (v : Value) → PlcAt w n v → PlcAt w' n v
  | 0, _, h => h
  | n + 1, _, ⟨b, s2, up, h1, h2, h3⟩ => by
    have n1 : b ≠ pb := by rintro rfl; rw [cb] at h2; simp at h2
    have n2 : b ≠ pk := by rintro rfl; rw [ck] at h2; simp at h2
    exact ⟨b, s2, up, h1, (hC.block b (Array.getElem?_eq_some_iff.1 h2).1 n1 n2).trans h2, PlcAt.but hC cb ck n up h3⟩
set_option maxHeartbeats 4000000 in
set_option maxRecDepth 100000 in
theorem catch_any (pb pk : Nat) (pp : Option Addr) (s : ByteArray) (hne : pb ≠ pk) (w : World) (cb : w.heap[pb]? = some (.cells #[.pointer none, .string ⟨#[]⟩] 65 (0, 0))) (ck : w.heap[pk]? = some (.cells #[.bool false] 4 (0, 0))) :
    CallsD Tryz.prog 47 #[.pointer (some ⟨pb, 0, none⟩), .pointer (some ⟨pk, 0, none⟩)] (.panicking (breachC (.pointer pp) s)) w fun e' u' w' => e' = .returned (.tuple #[]) ∧ u' = .panicking [{ v := breachV (.pointer pp) s, recovered := true }] ∧ CaughtB pb pk (.pointer pp) s w w' := by
  refine callsD_of_wpS Tryz.func47 rfl fun c₀ cs hu => ?_
  apply wpS_seq
  apply wpS_region
  unfold breachC breachV at hu
  simp [wpOpsS, go_sem, recoverD, hu, Tryz.ntmps47, Exit.thenS, rep10]
  refine wpS_of_wp ?_
  have hfin := fun o => hid_of (caught_of (o := o) hne (.pointer pp) s cb ck)
  have HU : Hid (c₀.mode = FrameMode.panicking [{ v := .iface 65 (.agg #[.pointer pp, .string s]), recovered := false }]) := hu
  clear hu
  have lb := (Array.getElem?_eq_some_iff.1 cb).1
  have lk := (Array.getElem?_eq_some_iff.1 ck).1
  have v0 : w.cell? ⟨pb, 0, none⟩ = some (.pointer none) := cell_of cb 0
  have v1 : w.cell? ⟨pb, 1, none⟩ = some (.string ⟨#[]⟩) := cell_of cb 1
  have v2 : w.cell? ⟨pk, 0, none⟩ = some (.bool false) := cell_of ck 0
  have f0 : ∀ j, w.frozen? ⟨pb, j, none⟩ = false := fun j => by simp [World.frozen?, cb]
  have f1 : ∀ j, w.frozen? ⟨pk, j, none⟩ = false := fun j => by simp [World.frozen?, ck]
  have n3 : ¬ pk = pb := fun h => hne h.symm
  have ta := ta_breach
  have en := en_breach
  clear cb ck
  go_wp2_with fail
  exact ⟨rfl, _, rfl, .tuple #[], by simp [results, Tryz.results47, go_sem], rfl, rfl, (hfin _).out⟩
end Go.Proofs.YtbcfkajcmbckbaaGreatDoor
/-! schema: caught, of any schema and any value. -/
namespace Go.Proofs.YtbcfkajcmbckbaaGreatDoor
open Go Go.RowKit

set_option maxHeartbeats 4000000 in
set_option maxRecDepth 100000 in
theorem caught_any (b2 b3 : Nat) (z : Bool) (w : World) (hk : Hid (∀ W, Below w.heap.size w W → Calls Tryz.prog 23 #[.pointer (some ⟨b2, 0, none⟩), .pointer (some ⟨b3, 0, none⟩)] W (SeekZ z W))) :
    Calls Tryz.prog 22 #[.func (.func 23) #[] #[.pointer (some ⟨b2, 0, none⟩), .pointer (some ⟨b3, 0, none⟩)]] w fun e w' => Below w.heap.size w w' ∧ ((z = true ∧ e = .returned (.tuple #[.agg #[.pointer none, .string ⟨#[]⟩], .bool false])) ∨ (z = false ∧ ∃ n pv s, n ≤ 8 ∧ e = .returned (.tuple #[.agg #[pv, .string s], .bool true]) ∧ PlcAt w' n pv)) := by
  have hb0 := (Below.refl _ w).alloc (Nat.le_refl _) (.cells #[.pointer none, .string ⟨#[]⟩] 65)
  have hb1 := hid_of (hb0.alloc hb0.size (.cells #[.bool false] 4))
  have n1 := hid_of (new1 w (.cells #[.pointer none, .string ⟨#[]⟩] 65) (.cells #[.bool false] 4))
  have n2 := hid_of (new2 w (.cells #[.pointer none, .string ⟨#[]⟩] 65) (.cells #[.bool false] 4))
  have hkk := hid_of (hk.out _ hb1.out)
  clear hb0 hk
  go_enter_defers Tryz.func22, Tryz.ntmps22
  go_wp2_with fail
  refine hkk.out.mono ?_
  rintro e W ⟨hb, ⟨hz, rfl⟩ | ⟨hz, n, pv, s, h8, rfl, hp⟩⟩
  · have q1 := block_keep n1.out hb
    have q2 := block_keep n2.out hb
    have hB := hid_of (hb1.out.trans (hb.mono hb1.out.size))
    have d0 : W.cell? ⟨w.heap.size, 0, none⟩ = some (.pointer none) := cell_of q1 0
    have d1 : W.cell? ⟨w.heap.size, 1, none⟩ = some (.string ⟨#[]⟩) := cell_of q1 1
    have d2 : W.cell? ⟨w.heap.size + 1, 0, none⟩ = some (.bool false) := cell_of q2 0
    have f0 : ∀ j, W.frozen? ⟨w.heap.size, j, none⟩ = false := fun j => by simp [World.frozen?, q1]
    have f1 : ∀ j, W.frozen? ⟨w.heap.size + 1, j, none⟩ = false := fun j => by simp [World.frozen?, q2]
    have n3 : ¬ w.heap.size + 1 = w.heap.size := by omega
    have n4 : ¬ w.heap.size = w.heap.size + 1 := by omega
    clear hkk n1 n2 hb hb1 q1 q2
    go_wp2_with fail
    refine leaves_cons (f := 47) (args := #[.pointer (some ⟨w.heap.size, 0, none⟩), .pointer (some ⟨w.heap.size + 1, 0, none⟩)]) (by simp) (by simp [go_sem]) ?_
    refine (catch_idle ⟨w.heap.size, 0, none⟩ ⟨w.heap.size + 1, 0, none⟩ _).mono ?_
    rintro e u' W3 ⟨rfl, rfl, rfl⟩
    simp [Leaves, settle, results, Tryz.results22, go_sem, d0, d1, d2]
    refine ⟨⟨hB.out.os, hB.out.tape, hB.out.output, ?_, fun k hk => ?_⟩, hz⟩
    · have := hB.out.size
      simp [World.setCell]
      omega
    · rw [Below.heap_setCell _ _ _ _ (by show k ≠ w.heap.size + 1; omega), Below.heap_setCell _ _ _ _ (by show k ≠ w.heap.size; omega), Below.heap_setCell _ _ _ _ (by show k ≠ w.heap.size; omega)]
      exact hB.out.block k hk
  · obtain ⟨o, rfl⟩ := hp.ptr
    have q1 := block_keep n1.out hb
    have q2 := block_keep n2.out hb
    have hB := hb1.out.trans (hb.mono hb1.out.size)
    clear hkk n1 n2 hb hb1
    go_wp2_with fail
    refine leaves_cons (f := 47) (args := #[.pointer (some ⟨w.heap.size, 0, none⟩), .pointer (some ⟨w.heap.size + 1, 0, none⟩)]) (by simp) (by simp [go_sem]) ?_
    refine (catch_any w.heap.size (w.heap.size + 1) (o.map fun b => ⟨b, 0, none⟩) s (by omega) W q1 q2).mono ?_
    rintro e u' W3 ⟨rfl, rfl, hC⟩
    have d0 : W3.cell? ⟨w.heap.size, 0, none⟩ = some (.pointer (o.map fun b => ⟨b, 0, none⟩)) := cell_of hC.cb 0
    have d1 : W3.cell? ⟨w.heap.size, 1, none⟩ = some (.string s) := cell_of hC.cb 1
    have d2 : W3.cell? ⟨w.heap.size + 1, 0, none⟩ = some (.bool true) := cell_of hC.ck 0
    have hBB : Below w.heap.size w W3 := hB.trans ⟨hC.os, hC.tape, hC.output, hC.size, fun k hk => hC.block k (by have := hB.size; omega) (by omega) (by omega)⟩
    have hPP := PlcAt.but hC q1 q2 n _ hp
    simp [Leaves, settle, results, Tryz.results22, go_sem, d0, d1, d2]
    exact ⟨hBB, hz, n, h8, hPP⟩
end Go.Proofs.YtbcfkajcmbckbaaGreatDoor
