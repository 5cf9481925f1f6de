import Derived.Test.YtgigikcopedoeaaGreatWF
import Derived.Test.YtgigikcopedoeaaGreatV2
import Derived.Test.YtgigikcopedoeaaGreatV4
import Derived.Test.YtgigikcopedoeaaGreatV5
import Derived.LoopN
/-! Lists of Values and of documents in memory; large, many, equal, same, docs. -/
namespace Go.Proofs.YtgigikcopedoeaaGreat.Tree
open Go Go.RowKit

/-- A list of Values in memory. -/
def ListAt (w : World) (a : Option Addr) (c : Nat) (its : List Tr) : Prop := (its.length ≤ c ∧ c ≤ 9223372036854775807) ∧ (its = [] ∨ ∃ b o, a = some ⟨b, o, none⟩ ∧ b < w.heap.size ∧ VRepL w b o its)
theorem ListAt.keep {w w' : World} {a : Option Addr} {c : Nat} {its : List Tr} (h : ListAt w a c its) (hb : Below w.heap.size w w') : ListAt w' a c its := by
  refine ⟨h.1, ?_⟩
  rcases h.2 with e | ⟨b, o, e, hl, hv⟩
  · exact .inl e
  · exact .inr ⟨b, o, e, Nat.lt_of_lt_of_le hl hb.size, VRepL.keep hb hl o its hv⟩
theorem ListAt.item {w : World} {a : Option Addr} {c : Nat} {its : List Tr} (h : ListAt w a c its) {q : Nat} {u : Tr} (hu : its[q]? = some u) : ∃ b o k x s an ln cn ai li ci, a = some ⟨b, o, none⟩ ∧ b < w.heap.size ∧ CellsAt w b (o + q * 5) (five k x s (.slice an ln cn) (.slice ai li ci)) ∧ VRep w u (five k x s (.slice an ln cn) (.slice ai li ci)) := by
  rcases h.2 with e | ⟨b, o, e, hl, hv⟩
  · subst e; simp at hu
  · obtain ⟨cs, h1, h2⟩ := VRepL.at its o q u hv hu
    obtain ⟨k, x, s, an, ln, cn, ai, li, ci, rfl⟩ := vrep_five h2
    exact ⟨b, o, k, x, s, an, ln, cn, ai, li, ci, e, hl, h1, h2⟩
theorem cells5 {w : World} {b o : Nat} {c0 c1 c2 c3 c4 : Value} (h : CellsAt w b o [c0, c1, c2, c3, c4]) : w.cell? ⟨b, o, none⟩ = some c0 ∧ w.cell? ⟨b, o + 1, none⟩ = some c1 ∧ w.cell? ⟨b, o + 2, none⟩ = some c2 ∧ w.cell? ⟨b, o + 3, none⟩ = some c3 ∧ w.cell? ⟨b, o + 4, none⟩ = some c4 := ⟨h 0 _ rfl, h 1 _ rfl, h 2 _ rfl, h 3 _ rfl, h 4 _ rfl⟩
theorem cells7 {w : World} {b o : Nat} {c0 c1 c2 c3 c4 c5 c6 : Value} (h : CellsAt w b o [c0, c1, c2, c3, c4, c5, c6]) : w.cell? ⟨b, o, none⟩ = some c0 ∧ w.cell? ⟨b, o + 1, none⟩ = some c1 ∧ w.cell? ⟨b, o + 2, none⟩ = some c2 ∧ w.cell? ⟨b, o + 3, none⟩ = some c3 ∧ w.cell? ⟨b, o + 4, none⟩ = some c4 ∧ w.cell? ⟨b, o + 5, none⟩ = some c5 ∧ w.cell? ⟨b, o + 6, none⟩ = some c6 := ⟨h 0 _ rfl, h 1 _ rfl, h 2 _ rfl, h 3 _ rfl, h 4 _ rfl, h 5 _ rfl, h 6 _ rfl⟩
/-- Some bool, of which P holds. -/
def SomeB (P : Bool → Prop) (e : Ending) : Prop := ∃ z, e = .returned (.bool z) ∧ P z
set_option maxHeartbeats 4000000 in
set_option maxRecDepth 100000 in
theorem large_any (a : Option Addr) (c n : Nat) (its : List Tr) (w : World) (hn : its.length = n) (hnn : n ≤ 4611686018427387904) (hV : ListAt w a c its) :
    Calls Tryz.prog 7 #[.slice a n c] w fun e w' => SomeB (fun _ => True) e ∧ Below w.heap.size w w' := by
  have n0 : (0 : Int) ≤ (n : Int) := by omega
  have n1 : (n : Int) ≤ 4611686018427387904 := by omega
  replace hn := hid_e hn
  replace hV := hid_e hV
  go_enter Tryz.func7, Tryz.ntmps7
  go_wp2_with fail
  go_loopw [3, 4] (fun nv iv wr => ∃ (q : Nat) (z : Int), nv = .int .i64 z ∧ iv = .int .i64 q ∧ q ≤ n ∧ Hid (Below w.heap.size w wr)) (fun _ iv _ => n - (intOf iv).toNat)
  case atStart => exact ⟨0, 0, rfl, rfl, Nat.zero_le _, Below.refl _ _⟩
  case round =>
    obtain ⟨q, z, rfl, rfl, hq, hb⟩ := hrel
    by_cases hlt : q < n
    · have q1 : (q : Int) < (n : Int) := by omega
      have q0 : (0 : Int) ≤ (q : Int) := by omega
      obtain ⟨u, hu⟩ : ∃ u, Hid (its[q]? = some u) := ⟨its[q]'(by rw [hn.out]; omega), List.getElem?_eq_getElem (by rw [hn.out]; omega)⟩
      obtain ⟨b, o, k1, x1, s1, an1, ln1, cn1, ai1, li1, ci1, ea, hlb, hc1, hv1⟩ := (hV.out.keep hb.out).item hu.out
      subst ea
      have call := hid_e (parts_any u _ 5000 wr hv1)
      obtain ⟨x10, x11, x12, x13, x14⟩ := cells5 hc1
      clear hc1 hv1 hlb
      go_wp2_with fail
      refine call.out.mono ?_
      rintro e w2 ⟨⟨m, rfl⟩, hb2⟩
      have hb' := hid_e (hb.out.trans (hb2.mono hb.out.size))
      clear call x10 x11 x12 x13 x14 hb2 hb
      go_wp2_with fail
      exact ⟨⟨q + 1, _, rfl, by go_num, by omega, hb'⟩, by simp [intOf]; omega⟩
    · obtain rfl : q = n := by omega
      have q1 : ¬ (q : Int) < (q : Int) := by omega
      go_wp2_with fail
      go_ret
      exact ⟨⟨_, rfl, trivial⟩, hb.out⟩
/-- A document: its cells, what its Value reads as. -/
structure Dc where
  id : ByteArray
  ver : Int
  k : Int
  x : Int
  s : ByteArray
  an : Option Addr
  ln : Nat
  cn : Nat
  ai : Option Addr
  li : Nat
  ci : Nat
  t : Tr
def Dc.v5 (d : Dc) : List Value := five d.k d.x d.s (.slice d.an d.ln d.cn) (.slice d.ai d.li d.ci)
def Dc.cells (d : Dc) : List Value := [.string d.id, .int .i64 d.ver, .int .i64 d.k, .int .i64 d.x, .string d.s, .slice d.an d.ln d.cn, .slice d.ai d.li d.ci]
/-- A list of documents in memory: their cells. -/
def DocsAt (w : World) (a : Option Addr) (ds : List Dc) : Prop := ∀ i d, ds[i]? = some d → ∃ b o, a = some ⟨b, o, none⟩ ∧ CellsAt w b (o + i * 7) d.cells
def Reads' (w : World) (ds : List Dc) : Prop := ∀ d ∈ ds, VRep w d.t d.v5
theorem DocsAt.keep {w w' : World} {a : Option Addr} {ds : List Dc} (h : DocsAt w a ds) (hb : Below w.heap.size w w') : DocsAt w' a ds := fun i d hd => by
  obtain ⟨b, o, e, hc⟩ := h i d hd
  exact ⟨b, o, e, fun j u hj => stay hb (hc j u hj)⟩
theorem Reads'.keep {w w' : World} {ds : List Dc} (h : Reads' w ds) (hb : Below w.heap.size w w') : Reads' w' ds := fun d hd => VRep.keep hb _ _ (h d hd)
set_option maxHeartbeats 4000000 in
set_option maxRecDepth 100000 in
theorem many_any (a : Option Addr) (c n : Nat) (ds : List Dc) (w : World) (hn : ds.length = n) (hnn : n ≤ 4611686018427387904) (hV : DocsAt w a ds) (hR : Reads' w ds) :
    Calls Tryz.prog 8 #[.slice a n c] w fun e w' => SomeB (fun z => z = false → n ≤ 150) e ∧ Below w.heap.size w w' := by
  have n0 : (0 : Int) ≤ (n : Int) := by omega
  have n1 : (n : Int) ≤ 4611686018427387904 := by omega
  replace hn := hid_e hn
  replace hV := hid_e hV
  replace hR := hid_e hR
  obtain ⟨P, hP⟩ : ∃ P : Bool → Prop, ∀ z, P z ↔ (z = false → n ≤ 150) := ⟨_, fun _ => Iff.rfl⟩
  suffices h : Calls Tryz.prog 8 #[.slice a n c] w fun e w' => SomeB P e ∧ Below w.heap.size w w' from h.mono (by rintro e w' ⟨⟨z, e1, h1⟩, h2⟩; exact ⟨⟨z, e1, (hP z).1 h1⟩, h2⟩)
  have hPt : Hid (P true) := (hP true).2 (fun h => by cases h)
  have hPf : Hid (n ≤ 150 → ∀ z, P z) := fun h z => (hP z).2 (fun _ => h)
  clear hP
  go_enter Tryz.func8, Tryz.ntmps8
  go_wp2_with fail
  go_loopw [3, 4] (fun nv iv wr => ∃ (q : Nat) (z : Int), nv = .int .i64 z ∧ iv = .int .i64 q ∧ q ≤ n ∧ Hid (Below w.heap.size w wr)) (fun _ iv _ => n - (intOf iv).toNat)
  case atStart => exact ⟨0, 0, rfl, rfl, Nat.zero_le _, Below.refl _ _⟩
  case round =>
    obtain ⟨q, z, rfl, rfl, hq, hb⟩ := hrel
    by_cases hlt : q < n ∧ z ≤ 5000
    · obtain ⟨hlt, hz⟩ := hlt
      have q1 : (q : Int) < (n : Int) := by omega
      have q0 : (0 : Int) ≤ (q : Int) := by omega
      obtain ⟨d, hd⟩ : ∃ d, Hid (ds[q]? = some d) := ⟨ds[q]'(by rw [hn.out]; omega), List.getElem?_eq_getElem (by rw [hn.out]; omega)⟩
      obtain ⟨b, o, ea, hc1⟩ := (hV.out.keep hb.out) q d hd.out
      subst ea
      have call := hid_e (parts_any d.t _ 5000 wr (VRep.keep hb.out _ _ (hR.out d (List.mem_of_getElem? hd.out))))
      unfold Dc.v5 five at call
      unfold Dc.cells at hc1
      obtain ⟨x10, x11, x12, x13, x14, x15, x16⟩ := cells7 hc1
      clear hc1
      go_wp2_with fail
      refine call.out.mono ?_
      rintro e w2 ⟨⟨m, rfl⟩, hb2⟩
      have hb' := hid_e (hb.out.trans (hb2.mono hb.out.size))
      clear call x10 x11 x12 x13 x14 x15 x16 hb2 hb
      go_wp2_with fail
      exact ⟨⟨q + 1, _, rfl, by go_num, by omega, hb'⟩, by simp [intOf]; omega⟩
    · have fin : ∀ (z : Int), Hid (n ≤ 150 ∨ ¬ n ≤ 150) := fun _ => Decidable.em _
      by_cases hq1 : q < n
      · have q1 : (q : Int) < (n : Int) := by omega
        have z1 : ¬ z ≤ 5000 := by omega
        have z2 : (5000 : Int) < z := by omega
        by_cases hl : n ≤ 150
        · have hl' : ¬ (150 : Int) < (n : Int) := by omega
          have hp := hPf.out hl
          replace hp := hid_e hp
          clear hlt fin
          go_wp2_with fail
          go_ret
          exact ⟨⟨_, rfl, hp.out _⟩, hb.out⟩
        · have hl' : (150 : Int) < (n : Int) := by omega
          clear hlt fin
          go_wp2_with fail
          go_ret
          exact ⟨⟨_, rfl, hPt.out⟩, hb.out⟩
      · obtain rfl : q = n := by omega
        have q1 : ¬ (q : Int) < (q : Int) := by omega
        by_cases hl : q ≤ 150
        · have hl' : ¬ (150 : Int) < (q : Int) := by omega
          have hp := hPf.out hl
          replace hp := hid_e hp
          clear hlt fin
          go_wp2_with fail
          go_ret
          exact ⟨⟨_, rfl, hp.out _⟩, hb.out⟩
        · have hl' : (150 : Int) < (q : Int) := by omega
          clear hlt fin
          go_wp2_with fail
          go_ret
          exact ⟨⟨_, rfl, hPt.out⟩, hb.out⟩
set_option maxHeartbeats 1000000 in
set_option maxRecDepth 100000 in
theorem equal_self (t : Tr) (k x : Int) (s : ByteArray) (an : Option Addr) (ln cn : Nat) (ai : Option Addr) (li ci : Nat) (w : World) (hV : VRep w t (five k x s (.slice an ln cn) (.slice ai li ci))) :
    Calls Tryz.prog 10 #[.agg #[.int .i64 k, .int .i64 x, .string s, .slice an ln cn, .slice ai li ci], .agg #[.int .i64 k, .int .i64 x, .string s, .slice an ln cn, .slice ai li ci]] w fun e w' => e = .returned (.bool true) ∧ Below w.heap.size w w' := by
  have hb0 : ∀ o o', Below w.heap.size w ((w.alloc o).alloc o') := fun o o' => ((Below.refl _ w).alloc (Nat.le_refl _) o).alloc (by simp) o'
  have call := fun o o' => hid_e (equal_same t _ _ ((w.alloc o).alloc o') (VRep.keep (hb0 o o') _ _ hV) (VRep.keep (hb0 o o') _ _ hV))
  replace hb0 := hid_e hb0
  clear hV
  go_enter Tryz.func10, Tryz.ntmps10
  go_wp2_with fail
  refine (call _ _).out.mono ?_
  rintro e w1 ⟨rfl, hb1⟩
  replace hb1 := hid_e hb1
  clear call
  go_wp2_with fail
  go_ret
  exact ⟨rfl, (hb0.out _ _).trans (hb1.out.mono (hb0.out _ _).size)⟩
set_option maxHeartbeats 2000000 in
set_option maxRecDepth 100000 in
theorem same_self (d : Dc) (w : World) (hV : VRep w d.t d.v5) : Calls Tryz.prog 35 #[.agg #[.string d.id, .int .i64 d.ver, .int .i64 d.k, .int .i64 d.x, .string d.s, .slice d.an d.ln d.cn, .slice d.ai d.li d.ci], .agg #[.string d.id, .int .i64 d.ver, .int .i64 d.k, .int .i64 d.x, .string d.s, .slice d.an d.ln d.cn, .slice d.ai d.li d.ci]] w fun e w' => e = .returned (.bool true) ∧ Below w.heap.size w w' := by
  have hb0 : ∀ o o', Below w.heap.size w ((w.alloc o).alloc o') := fun o o' => ((Below.refl _ w).alloc (Nat.le_refl _) o).alloc (by simp) o'
  have call := fun o o' => hid_e (equal_self d.t d.k d.x d.s d.an d.ln d.cn d.ai d.li d.ci ((w.alloc o).alloc o') (VRep.keep (hb0 o o') _ _ hV))
  replace hb0 := hid_e hb0
  clear hV
  go_enter Tryz.func35, Tryz.ntmps35
  go_wp2_with fail
  refine (call _ _).out.mono ?_
  rintro e w1 ⟨rfl, hb1⟩
  replace hb1 := hid_e hb1
  clear call
  go_wp2_with fail
  go_ret
  exact ⟨rfl, (hb0.out _ _).trans (hb1.out.mono (hb0.out _ _).size)⟩
set_option maxHeartbeats 4000000 in
set_option maxRecDepth 100000 in
theorem docs_self (a a' : Option Addr) (c c' n : Nat) (ds : List Dc) (w : World) (hn : ds.length = n) (hnn : n ≤ 4611686018427387904) (hV : DocsAt w a ds) (hV' : DocsAt w a' ds) (hR : Reads' w ds) :
    Calls Tryz.prog 13 #[.slice a n c, .slice a' n c'] w fun e w' => e = .returned (.bool true) ∧ Below w.heap.size w w' := by
  have n0 : (0 : Int) ≤ (n : Int) := by omega
  have n1 : (n : Int) ≤ 4611686018427387904 := by omega
  replace hn := hid_e hn
  replace hV := hid_e hV
  replace hV' := hid_e hV'
  replace hR := hid_e hR
  go_enter Tryz.func13, Tryz.ntmps13
  go_wp2_with fail
  go_loopw [5] (fun iv wr => ∃ (q : Nat), iv = .int .i64 q ∧ q ≤ n ∧ Hid (Below w.heap.size w wr)) (fun iv _ => n - (intOf iv).toNat)
  case atStart => exact ⟨0, rfl, Nat.zero_le _, Below.refl _ _⟩
  case round =>
    obtain ⟨q, rfl, hq, hb⟩ := hrel
    by_cases hlt : q < n
    · have q1 : (q : Int) < (n : Int) := by omega
      have q0 : (0 : Int) ≤ (q : Int) := by omega
      obtain ⟨d, hd⟩ : ∃ d, Hid (ds[q]? = some d) := ⟨ds[q]'(by rw [hn.out]; omega), List.getElem?_eq_getElem (by rw [hn.out]; omega)⟩
      obtain ⟨b, o, ea, hc1⟩ := (hV.out.keep hb.out) q d hd.out
      obtain ⟨b', o', ea', hc2⟩ := (hV'.out.keep hb.out) q d hd.out
      subst ea
      subst ea'
      have call := hid_e (fun W (hW : Below wr.heap.size wr W) => same_self d W (VRep.keep (hb.out.trans (hW.mono hb.out.size)) _ _ (hR.out d (List.mem_of_getElem? hd.out))))
      unfold Dc.cells at hc1 hc2
      obtain ⟨x0, x1, x2, x3, x4, x5, x6⟩ := cells7 hc1
      obtain ⟨y0, y1, y2, y3, y4, y5, y6⟩ := cells7 hc2
      clear hc1 hc2
      go_upto_region 6 with fail
      refine wp_region_quiet (C := fun w' => Below wr.heap.size wr w') (by kernel_rfl) (by kernel_rfl) (below_drewN (Below.refl _ _) 1) ?_
      with_reducible refine wpQuiet_step (fun K hK => ?_)
      refine ⟨.slice (some ⟨b, o, none⟩) n c, fun w' hw' => ?_, ?_⟩
      · first | (go_simp; done) | (go_simp; decide) | (go_simp; omega)
      with_reducible refine hK _ ?_
      clear hK K
      simp only [Act.put, List.setIfInBounds_toArray, List.set_cons_zero, List.set_cons_succ]
      with_reducible refine wpQuiet_step (fun K hK => ?_)
      refine ⟨.int .i64 q, fun w' hw' => ?_, ?_⟩
      · first | (go_simp; done) | (go_simp; decide) | (go_simp; omega)
      with_reducible refine hK _ ?_
      clear hK K
      simp only [Act.put, List.setIfInBounds_toArray, List.set_cons_zero, List.set_cons_succ]
      with_reducible refine wpQuiet_step (fun K hK => ?_)
      refine ⟨.pointer (some ⟨b, o + q * 7, none⟩), fun w' hw' => ?_, ?_⟩
      · first | (go_simp; done) | (go_simp; decide) | (go_simp; omega)
      with_reducible refine hK _ ?_
      clear hK K
      simp only [Act.put, List.setIfInBounds_toArray, List.set_cons_zero, List.set_cons_succ]
      with_reducible refine wpQuiet_step (fun K hK => ?_)
      refine ⟨.agg #[.string d.id, .int .i64 d.ver, .int .i64 d.k, .int .i64 d.x, .string d.s, .slice d.an d.ln d.cn, .slice d.ai d.li d.ci], fun w' hw' => ?_, ?_⟩
      · have t0 := stay hw' x0
        have t1 := stay hw' x1
        have t2 := stay hw' x2
        have t3 := stay hw' x3
        have t4 := stay hw' x4
        have t5 := stay hw' x5
        have t6 := stay hw' x6
        go_simp
      with_reducible refine hK _ ?_
      clear hK K
      simp only [Act.put, List.setIfInBounds_toArray, List.set_cons_zero, List.set_cons_succ]
      with_reducible refine wpQuiet_step (fun K hK => ?_)
      refine ⟨.slice (some ⟨b', o', none⟩) n c', fun w' hw' => ?_, ?_⟩
      · first | (go_simp; done) | (go_simp; decide) | (go_simp; omega)
      with_reducible refine hK _ ?_
      clear hK K
      simp only [Act.put, List.setIfInBounds_toArray, List.set_cons_zero, List.set_cons_succ]
      with_reducible refine wpQuiet_step (fun K hK => ?_)
      refine ⟨.int .i64 q, fun w' hw' => ?_, ?_⟩
      · first | (go_simp; done) | (go_simp; decide) | (go_simp; omega)
      with_reducible refine hK _ ?_
      clear hK K
      simp only [Act.put, List.setIfInBounds_toArray, List.set_cons_zero, List.set_cons_succ]
      with_reducible refine wpQuiet_step (fun K hK => ?_)
      refine ⟨.pointer (some ⟨b', o' + q * 7, none⟩), fun w' hw' => ?_, ?_⟩
      · first | (go_simp; done) | (go_simp; decide) | (go_simp; omega)
      with_reducible refine hK _ ?_
      clear hK K
      simp only [Act.put, List.setIfInBounds_toArray, List.set_cons_zero, List.set_cons_succ]
      with_reducible refine wpQuiet_step (fun K hK => ?_)
      refine ⟨.agg #[.string d.id, .int .i64 d.ver, .int .i64 d.k, .int .i64 d.x, .string d.s, .slice d.an d.ln d.cn, .slice d.ai d.li d.ci], fun w' hw' => ?_, ?_⟩
      · have t0 := stay hw' y0
        have t1 := stay hw' y1
        have t2 := stay hw' y2
        have t3 := stay hw' y3
        have t4 := stay hw' y4
        have t5 := stay hw' y5
        have t6 := stay hw' y6
        go_simp
      with_reducible refine hK _ ?_
      clear hK K
      simp only [Act.put, List.setIfInBounds_toArray, List.set_cons_zero, List.set_cons_succ]
      with_reducible refine wpQuiet_step (fun K hK => ?_)
      refine ⟨.bool true, fun w' hw' => ?_, ?_⟩
      · go_simp
        refine (call.out w' hw').mono ?_
        rintro e w'' ⟨rfl, hb'⟩
        exact ⟨rfl, hw'.trans (hb'.mono hw'.size)⟩
      with_reducible refine hK _ ?_
      clear hK K
      simp only [Act.put, List.setIfInBounds_toArray, List.set_cons_zero, List.set_cons_succ]
      with_reducible refine wpQuiet_step (fun K hK => ?_)
      refine ⟨.bool false, fun w' hw' => ?_, ?_⟩
      · first | (go_simp; done) | (go_simp; decide) | (go_simp; omega)
      with_reducible refine hK _ ?_
      clear hK K
      simp only [Act.put, List.setIfInBounds_toArray, List.set_cons_zero, List.set_cons_succ]
      refine wpQuiet_nil ?_
      intro X1 hX1
      have hb' := hid_e (hb.out.trans (hX1.mono hb.out.size))
      clear x0 x1 x2 x3 x4 x5 x6 y0 y1 y2 y3 y4 y5 y6 call hb hX1
      go_wp2_with fail
      exact ⟨⟨q + 1, by go_num, by omega, hb'⟩, by simp [intOf]; omega⟩
    · obtain rfl : q = n := by omega
      have q1 : ¬ (q : Int) < (q : Int) := by omega
      go_wp2_with fail
      go_ret
      exact ⟨rfl, hb.out⟩
end Go.Proofs.YtgigikcopedoeaaGreat.Tree
