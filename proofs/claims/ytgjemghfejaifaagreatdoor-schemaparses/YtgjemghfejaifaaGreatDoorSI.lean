import Derived.Test.YtgjemghfejaifaaGreatDoorSH
/-! schema: the maker of type: its loop. -/
namespace Go.Proofs.YtgjemghfejaifaaGreatDoor
open Go Go.RowKit

def typeZ (k : Int) (s : ByteArray) (its : List Tr) : Int := if typeOk k s its = true then 0 else 210
/-- A row of values. -/
def RowT (w : World) (a : Option Addr) (l : List Tr) : Prop := l = [] ∨ ∃ b o, a = some ⟨b, o, none⟩ ∧ b < w.heap.size ∧ VRepL w b o l
theorem RowT.keep {w w' : World} {a : Option Addr} {l : List Tr} (h : RowT w a l) (hb : Below w.heap.size w w') : RowT w' a l := by
  rcases h with h | ⟨b, o, h1, h2, h3⟩
  · exact .inl h
  · exact .inr ⟨b, o, h1, Nat.lt_of_lt_of_le h2 hb.size, VRepL.keep hb h2 o l h3⟩
theorem heap_new' {w : World} {n : Nat} {o : Obj} (h : n = w.heap.size) : (w.alloc o).heap[n]? = some o := by rw [h]; exact heap_alloc_new w o
theorem vrep_head {w : World} {t : Tr} {v : V5} (h : VRep w t v.cs) : t.kind = v.k ∧ t.text = v.s := by
  obtain ⟨k, x, s, ns, is⟩ := t
  unfold VRep V5.cs five at h
  obtain ⟨nm, a, c, e, -⟩ := h
  simp only [List.cons.injEq, Value.int.injEq, Value.string.injEq, true_and] at e
  exact ⟨e.1.symm, e.2.2.1.symm⟩
theorem row_one {w : World} {t : Tr} {v : V5} (h : VRep w t v.cs) {g : Nat} {ty : TypeId} (hg : w.heap[g]? = some (.cells #[.int .i64 v.k, .int .i64 v.x, .string v.s, .slice v.an v.ln v.cn, .slice v.ai v.li v.ci] ty (0, 0))) : RowT w (some ⟨g, 0, none⟩) [t] := by
  refine .inr ⟨g, 0, rfl, (Array.getElem?_eq_some_iff.1 hg).1, ?_⟩
  unfold VRepL
  refine ⟨v.cs, fun j u hj => ?_, h, by unfold VRepL; trivial⟩
  have := cell_of hg (0 + j)
  rw [this, Nat.zero_add]
  unfold V5.cs five at hj
  simpa using hj
theorem seven_of {cs : Array Value} (h : cs.size = 7) : ∃ c0 c1 c2 c3 c4 c5 c6, cs = #[c0, c1, c2, c3, c4, c5, c6] := by
  obtain ⟨l⟩ := cs
  match l, h with
  | [c0, c1, c2, c3, c4, c5, c6], _ => exact ⟨c0, c1, c2, c3, c4, c5, c6, rfl⟩
theorem seven_cells {w : World} {g : Nat} {c0 c1 c2 c3 c4 c5 c6 : Value} {t : TypeId} (h : w.heap[g]? = some (.cells #[c0, c1, c2, c3, c4, c5, c6] t (0, 0))) : w.cell? ⟨g, 0, none⟩ = some c0 ∧ w.cell? ⟨g, 1, none⟩ = some c1 ∧ w.cell? ⟨g, 2, none⟩ = some c2 ∧ w.cell? ⟨g, 3, none⟩ = some c3 ∧ w.cell? ⟨g, 4, none⟩ = some c4 ∧ w.cell? ⟨g, 5, none⟩ = some c5 ∧ w.cell? ⟨g, 6, none⟩ = some c6 := by
  refine ⟨?_, ?_, ?_, ?_, ?_, ?_, ?_⟩
  all_goals simp [World.cell?, h]
def TypePost (w : World) (z : Int) (e : Ending) (w' : World) : Prop := ∃ v z', e = .returned (.tuple #[v, .int .i64 z']) ∧ z' = z ∧ Below w.heap.size w w' ∧ (z' = 0 → ∃ ty x, v = .iface ty x)
set_option maxHeartbeats 8000000 in
set_option maxRecDepth 100000 in
theorem types_any (r : Value) (u b : V5) (d : Nat) (t : Tr) (w : World) (hV0 : VRep w t u.cs) (hT : Hid (TysAt w)) (hl : t.items.length ≤ 8796093021952) :
    Calls Tryz.prog 28 #[r, givenV u b d] w (TypePost w (typeZ u.k u.s t.items)) := by
  have hT0 : Hid (0 < w.heap.size) := lt_of_cell (hT.out 0 (by decide))
  have hB0 := (Below.refl _ w).alloc (Nat.le_refl _) (givenO u b d)
  have hVO := (hB0.alloc hB0.size (.cells #[.int .i64 u.k, .int .i64 u.x, .string u.s, .slice u.an u.ln u.cn, .slice u.ai u.li u.ci] 25))
  have hn0 := heap_alloc_new w (givenO u b d)
  obtain ⟨x0, x1, x2, x3, x4, -⟩ := givenO_cells hn0
  obtain ⟨z, hz⟩ : ∃ z, Hid (typeZ u.k u.s t.items = z) := ⟨_, rfl⟩
  rw [hz.out]
  have hrow1 := row_one (VRep.keep hVO _ _ hV0) (heap_alloc_new (w.alloc (givenO u b d)) (.cells #[.int .i64 u.k, .int .i64 u.x, .string u.s, .slice u.an u.ln u.cn, .slice u.ai u.li u.ci] 25))
  rw [World.size_alloc] at hrow1
  replace hrow1 := hid_of hrow1
  have hrow2 : Hid (u.li = t.items.length ∧ RowT w u.ai t.items) := by
    obtain ⟨k, x, s, ns, is⟩ := t
    unfold VRep V5.cs five at hV0
    obtain ⟨nm, a, c, e, h2, h3, h4⟩ := hV0
    simp only [List.cons.injEq, Value.slice.injEq, and_true] at e
    obtain ⟨-, -, -, -, e1, e2, -⟩ := e
    rw [e1]
    exact ⟨e2, h4⟩
  have hhd := hid_of (vrep_head hV0)
  replace hVO := hid_of hVO
  clear hn0 hV0
  unfold givenO at *
  unfold givenV
  obtain ⟨tb, htb⟩ : ∃ n, Hid (w.heap.size + 1 + 1 = n) := ⟨_, rfl⟩
  go_enter Tryz.func28, Tryz.ntmps28
  by_cases hk : u.k = 5
  · have hb1 : (u.k == 5) = true := by simp [hk]
    obtain ⟨L, hL⟩ : ∃ L, Hid (t.items = L) := ⟨_, rfl⟩
    have hzL : Hid ((if L ≠ [] ∧ (L.drop 0).all isTy = true then 0 else 210) = z) := by
      rw [Hid, ← hz.out, ← hL.out]; unfold typeZ typeOk; rw [if_pos hk]; simp [Bool.and_eq_true]
    rw [hL.out] at hrow2 hl
    clear hk hz hL
    go_wp2_with fail
    rw [htb.out]
    have hCX : Hid (∃ cs, cs.size = 7 ∧ (((w.alloc (.cells #[.int .i64 u.k, .int .i64 u.x, .string u.s, .slice u.an u.ln u.cn, .slice u.ai u.li u.ci, .int .i64 b.k, .int .i64 b.x, .string b.s, .slice b.an b.ln b.cn, .slice b.ai b.li b.ci, .int .i64 (d : Int)] 82)).alloc (.cells #[.int .i64 u.k, .int .i64 u.x, .string u.s, .slice u.an u.ln u.cn, .slice u.ai u.li u.ci] 25)).alloc (.cells #[.bool false, .bool false, .bool false, .bool false, .bool false, .bool false, .bool false] 94)).heap[tb]? = some (.cells cs 94 (0, 0))) := ⟨_, rfl, heap_new' (by rw [← htb.out]; simp)⟩
    have hBX := hid_of (hVO.out.alloc hVO.out.size (.cells #[.bool false, .bool false, .bool false, .bool false, .bool false, .bool false, .bool false] 94))
    have hRow := hid_of (RowT.keep hrow2.out.2 hBX.out)
    have hlen : Hid ((u.li : Int) = (L.length : Int)) := by have := hrow2.out.1; show (u.li : Int) = _; omega
    have htb3 : Hid ((((w.alloc (.cells #[.int .i64 u.k, .int .i64 u.x, .string u.s, .slice u.an u.ln u.cn, .slice u.ai u.li u.ci, .int .i64 b.k, .int .i64 b.x, .string b.s, .slice b.an b.ln b.cn, .slice b.ai b.li b.ci, .int .i64 (d : Int)] 82)).alloc (.cells #[.int .i64 u.k, .int .i64 u.x, .string u.s, .slice u.an u.ln u.cn, .slice u.ai u.li u.ci] 25)).alloc (.cells #[.bool false, .bool false, .bool false, .bool false, .bool false, .bool false, .bool false] 94)).heap.size = tb + 1) := by rw [Hid, ← htb.out]; simp
    have hrowlt : Hid (L ≠ [] → ∀ b o, u.ai = some ⟨b, o, none⟩ → b < tb) := by
      intro hne b o e
      rcases hrow2.out.2 with h | ⟨b2, o2, e2, h2, -⟩
      · exact absurd h hne
      · rw [e2] at e; cases e; have := htb.out; omega
    generalize hX : ((w.alloc (.cells #[.int .i64 u.k, .int .i64 u.x, .string u.s, .slice u.an u.ln u.cn, .slice u.ai u.li u.ci, .int .i64 b.k, .int .i64 b.x, .string b.s, .slice b.an b.ln b.cn, .slice b.ai b.li b.ci, .int .i64 (d : Int)] 82)).alloc (.cells #[.int .i64 u.k, .int .i64 u.x, .string u.s, .slice u.an u.ln u.cn, .slice u.ai u.li u.ci] 25)).alloc (.cells #[.bool false, .bool false, .bool false, .bool false, .bool false, .bool false, .bool false] 94) = X at hCX hBX hRow htb3 ⊢
    have htb2 : Hid (w.heap.size ≤ tb) := by have := htb.out; show w.heap.size ≤ tb; omega
    clear hB0 x0 x1 x2 x3 x4 hrow1 hVO
    clear hX
    go_loopw [22] (fun i wr => ∃ q : Nat, q ≤ L.length ∧ i = .int .i64 q ∧ Hid (Below w.heap.size w wr) ∧ Hid (Below tb X wr) ∧ Hid (∃ cs, cs.size = 7 ∧ wr.heap[tb]? = some (.cells cs 94 (0, 0))) ∧ Hid ((if L ≠ [] ∧ (L.drop q).all isTy = true then 0 else 210) = z)) (fun i _ => L.length - (intOf i).toNat)
    case atStart => exact ⟨0, Nat.zero_le _, rfl, hBX, hid_of (Below.refl _ _), hCX, hzL⟩
    case round =>
      obtain ⟨q, hq, rfl, hB, hBt, hC, hZ⟩ := hrel
      by_cases hlt : q < L.length
      · obtain ⟨t', ht'⟩ : ∃ s', Hid (L[q]? = some s') := ⟨_, hid_e (List.getElem?_eq_getElem hlt)⟩
        have hpos : Hid (L ≠ []) := by intro e; rw [e] at hlt; simp at hlt
        obtain ⟨g, o, hai, hg, hV⟩ := hRow.out.resolve_left (by intro e; rw [e] at hlt; simp at hlt)
        obtain ⟨cs, hCs, hr⟩ := VRepL.at L o q t' hV ht'.out
        obtain ⟨v, rfl⟩ := vrep_v5 hr
        have hvk := vrep_head hr
        unfold V5.cs five at hCs
        have hgt : g < tb := hrowlt.out hpos.out g o hai
        have z0 := (hBt.out.cell (p := ⟨g, o + q * 5 + 0, none⟩) hgt).trans (hCs 0 _ rfl)
        have z1 := (hBt.out.cell (p := ⟨g, o + q * 5 + 1, none⟩) hgt).trans (hCs 1 _ rfl)
        have z2 := (hBt.out.cell (p := ⟨g, o + q * 5 + 2, none⟩) hgt).trans (hCs 2 _ rfl)
        have z3 := (hBt.out.cell (p := ⟨g, o + q * 5 + 3, none⟩) hgt).trans (hCs 3 _ rfl)
        have z4 := (hBt.out.cell (p := ⟨g, o + q * 5 + 4, none⟩) hgt).trans (hCs 4 _ rfl)
        simp only [Nat.add_zero] at z0
        have hst := hid_of (all_at (f := isTy) ht'.out)
        have hbox := fun o => hid_of (hB.out.alloc hB.out.size o)
        have hbox2 := fun o => hid_of (hBt.out.alloc (by have := hBt.out.size; have := htb3.out; omega) o)
        have hi : (q : Int) < (u.li : Int) := by have := hlen.out; omega
        rw [hai]
        clear hV hCs hr hg
        by_cases hk4 : v.k = 4
        · have hb4 : (v.k != 4) = false := by simp [hk4]
          obtain ⟨cs', hcs', hX'⟩ := hC.out
          have hTy := hid_of (hT.out.keep (hB.out.block _ hT0.out))
          have hadd := fun o => hid_of (addTy_any tb v.s cs' (wr.alloc o) (hid_of (hTy.out.keep (Below.heap_alloc _ _ _ (Nat.lt_of_lt_of_le hT0.out hB.out.size)))) (hid_of (by have := hT0.out; have := htb2.out; omega)) hcs' (hid_of ((Below.heap_alloc _ _ _ (Array.getElem?_eq_some_iff.1 hX').1).trans hX')))
          have hsT : Hid (isTy t' = tyName v.s) := by rw [Hid]; unfold isTy; rw [hvk.1, hvk.2, hk4]; simp
          clear hk4 hvk hX' hTy
          obtain ⟨kn, hkn⟩ : ∃ c, Hid (tyName v.s = c) := ⟨_, rfl⟩
          rw [hkn.out] at hadd hsT
          go_wp2_with fail
          refine (hadd _).out.mono ?_
          rintro e W1 ⟨rfl, hF1, cs1, hcs1, hX1⟩
          have hB1 := hid_of ((hbox (.cells #[.int .i64 v.k, .int .i64 v.x, .string v.s, .slice v.an v.ln v.cn, .slice v.ai v.li v.ci] 25)).out.trans (hF1.below (by have := (hbox (.cells #[.int .i64 v.k, .int .i64 v.x, .string v.s, .slice v.an v.ln v.cn, .slice v.ai v.li v.ci] 25)).out.size; exact this) (fun i e => by subst e; exact htb2.out)))
          have hB2 := hid_of ((hbox2 (.cells #[.int .i64 v.k, .int .i64 v.x, .string v.s, .slice v.an v.ln v.cn, .slice v.ai v.li v.ci] 25)).out.trans (hF1.below (by have := (hbox2 (.cells #[.int .i64 v.k, .int .i64 v.x, .string v.s, .slice v.an v.ln v.cn, .slice v.ai v.li v.ci] 25)).out.size; have := htb3.out; omega) (fun i e => by subst e; exact Nat.le_refl _)))
          replace hX1 := hid_of hX1
          clear hadd hF1 hbox hbox2 hC
          cases kn with
          | true =>
            have hZ2 : Hid ((if L ≠ [] ∧ (L.drop (q + 1)).all isTy = true then 0 else 210) = z) := by
              rw [Hid, ← hZ.out, hst.out, hsT.out, Bool.true_and]
            go_wp2_with fail
            go_roundw
            case rel => exact ⟨q + 1, by omega, by go_num, hB1, hB2, ⟨cs1, hcs1, hX1.out⟩, hZ2⟩
            case measure => have := hlen.out; simp [intOf]; omega
          | false =>
            have hZ2 : Hid (z = 210) := by
              rw [Hid, ← hZ.out, hst.out, hsT.out]; simp
            go_wp2_with fail
            go_ret2
            exact ⟨_, _, rfl, hZ2.out.symm, hB1.out, by first | exact fun _ => ⟨_, _, rfl⟩ | (intro e; cases e)⟩
        · have hb4 : (v.k != 4) = true := by simp [hk4]
          have hZ2 : Hid (z = 210) := by
            have : isTy t' = false := by unfold isTy; rw [hvk.1]; simp [hk4]
            rw [Hid, ← hZ.out, hst.out, this]; simp
          clear hk4 hvk hst hZ
          go_wp2_with fail
          go_ret2
          exact ⟨_, _, rfl, hZ2.out.symm, (hbox _).out, by first | exact fun _ => ⟨_, _, rfl⟩ | (intro e; cases e)⟩
      · have e : L.drop q = [] := List.drop_eq_nil_of_le (by omega)
        have hZ2 : Hid ((if L ≠ [] then 0 else 210) = z) := by rw [Hid, ← hZ.out, e]; simp
        have hi : ¬ (q : Int) < (u.li : Int) := by have := hlen.out; omega
        obtain ⟨cs', hcs', hX'⟩ := hC.out
        obtain ⟨c0, c1, c2, c3, c4, c5, c6, rfl⟩ := seven_of hcs'
        obtain ⟨e0, e1, e2, e3, e4, e5, e6⟩ := seven_cells hX'
        clear hlt e hX' hcs' hC
        by_cases h0 : L = []
        · have hb0 : ((u.li : Int) == 0) = true := by have := hlen.out; rw [h0] at this; simp at this ⊢; omega
          have hZ3 : Hid (z = 210) := by rw [Hid, ← hZ2.out, if_neg (fun h => h h0)]
          clear h0
          go_wp2_with fail
          go_ret2
          exact ⟨_, _, rfl, hZ3.out.symm, hB.out, by first | exact fun _ => ⟨_, _, rfl⟩ | (intro e; cases e)⟩
        · have hb0 : ((u.li : Int) == 0) = false := by
            have := hlen.out
            have : L.length ≠ 0 := fun e => h0 (List.eq_nil_of_length_eq_zero e)
            simp; omega
          have hZ3 : Hid (z = 0) := by rw [Hid, ← hZ2.out, if_pos h0]
          clear h0
          go_wp2_with fail
          go_ret2
          exact ⟨_, _, rfl, hZ3.out.symm, hB.out, by first | exact fun _ => ⟨_, _, rfl⟩ | (intro e; cases e)⟩
  · have hb1 : (u.k == 5) = false := by simp [hk]
    have hzL : Hid ((if [t] ≠ [] ∧ (([t] : List Tr).drop 0).all isTy = true then 0 else 210) = z) := by
      rw [Hid, ← hz.out]; unfold typeZ typeOk; rw [if_neg hk]; simp [isTy, hhd.out.1, hhd.out.2]
    clear hk hz
    go_wp2_with fail
    rw [htb.out]
    have hCX : Hid (∃ cs, cs.size = 7 ∧ (((w.alloc (.cells #[.int .i64 u.k, .int .i64 u.x, .string u.s, .slice u.an u.ln u.cn, .slice u.ai u.li u.ci, .int .i64 b.k, .int .i64 b.x, .string b.s, .slice b.an b.ln b.cn, .slice b.ai b.li b.ci, .int .i64 (d : Int)] 82)).alloc (.cells #[.int .i64 u.k, .int .i64 u.x, .string u.s, .slice u.an u.ln u.cn, .slice u.ai u.li u.ci] 25)).alloc (.cells #[.bool false, .bool false, .bool false, .bool false, .bool false, .bool false, .bool false] 94)).heap[tb]? = some (.cells cs 94 (0, 0))) := ⟨_, rfl, heap_new' (by rw [← htb.out]; simp)⟩
    have hBX := hid_of (hVO.out.alloc hVO.out.size (.cells #[.bool false, .bool false, .bool false, .bool false, .bool false, .bool false, .bool false] 94))
    have hRow := hid_of (RowT.keep hrow1.out ((Below.refl _ _).alloc (Nat.le_refl _) (.cells #[.bool false, .bool false, .bool false, .bool false, .bool false, .bool false, .bool false] 94)))
    have hlen : Hid ((1 : Int) = (([t] : List Tr).length : Int)) := rfl
    have htb3 : Hid ((((w.alloc (.cells #[.int .i64 u.k, .int .i64 u.x, .string u.s, .slice u.an u.ln u.cn, .slice u.ai u.li u.ci, .int .i64 b.k, .int .i64 b.x, .string b.s, .slice b.an b.ln b.cn, .slice b.ai b.li b.ci, .int .i64 (d : Int)] 82)).alloc (.cells #[.int .i64 u.k, .int .i64 u.x, .string u.s, .slice u.an u.ln u.cn, .slice u.ai u.li u.ci] 25)).alloc (.cells #[.bool false, .bool false, .bool false, .bool false, .bool false, .bool false, .bool false] 94)).heap.size = tb + 1) := by rw [Hid, ← htb.out]; simp
    have hrowlt : Hid ([t] ≠ [] → ∀ b o, some (⟨w.heap.size + 1, 0, none⟩ : Addr) = some ⟨b, o, none⟩ → b < tb) := by
      intro _ b o e; cases e; have := htb.out; omega
    generalize hX : ((w.alloc (.cells #[.int .i64 u.k, .int .i64 u.x, .string u.s, .slice u.an u.ln u.cn, .slice u.ai u.li u.ci, .int .i64 b.k, .int .i64 b.x, .string b.s, .slice b.an b.ln b.cn, .slice b.ai b.li b.ci, .int .i64 (d : Int)] 82)).alloc (.cells #[.int .i64 u.k, .int .i64 u.x, .string u.s, .slice u.an u.ln u.cn, .slice u.ai u.li u.ci] 25)).alloc (.cells #[.bool false, .bool false, .bool false, .bool false, .bool false, .bool false, .bool false] 94) = X at hCX hBX hRow htb3 ⊢
    have htb2 : Hid (w.heap.size ≤ tb) := by have := htb.out; show w.heap.size ≤ tb; omega
    clear hB0 x0 x1 x2 x3 x4 hrow1 hVO
    clear hX
    go_loopw [22] (fun i wr => ∃ q : Nat, q ≤ ([t] : List Tr).length ∧ i = .int .i64 q ∧ Hid (Below w.heap.size w wr) ∧ Hid (Below tb X wr) ∧ Hid (∃ cs, cs.size = 7 ∧ wr.heap[tb]? = some (.cells cs 94 (0, 0))) ∧ Hid ((if [t] ≠ [] ∧ (([t] : List Tr).drop q).all isTy = true then 0 else 210) = z)) (fun i _ => ([t] : List Tr).length - (intOf i).toNat)
    case atStart => exact ⟨0, Nat.zero_le _, rfl, hBX, hid_of (Below.refl _ _), hCX, hzL⟩
    case round =>
      obtain ⟨q, hq, rfl, hB, hBt, hC, hZ⟩ := hrel
      by_cases hlt : q < ([t] : List Tr).length
      · obtain ⟨t', ht'⟩ : ∃ s', Hid (([t] : List Tr)[q]? = some s') := ⟨_, hid_e (List.getElem?_eq_getElem hlt)⟩
        have hpos : Hid ([t] ≠ []) := by intro e; rw [e] at hlt; simp at hlt
        obtain ⟨g, o, hai, hg, hV⟩ := hRow.out.resolve_left (by intro e; rw [e] at hlt; simp at hlt)
        obtain ⟨cs, hCs, hr⟩ := VRepL.at [t] o q t' hV ht'.out
        obtain ⟨v, rfl⟩ := vrep_v5 hr
        have hvk := vrep_head hr
        unfold V5.cs five at hCs
        have hgt : g < tb := hrowlt.out hpos.out g o hai
        have z0 := (hBt.out.cell (p := ⟨g, o + q * 5 + 0, none⟩) hgt).trans (hCs 0 _ rfl)
        have z1 := (hBt.out.cell (p := ⟨g, o + q * 5 + 1, none⟩) hgt).trans (hCs 1 _ rfl)
        have z2 := (hBt.out.cell (p := ⟨g, o + q * 5 + 2, none⟩) hgt).trans (hCs 2 _ rfl)
        have z3 := (hBt.out.cell (p := ⟨g, o + q * 5 + 3, none⟩) hgt).trans (hCs 3 _ rfl)
        have z4 := (hBt.out.cell (p := ⟨g, o + q * 5 + 4, none⟩) hgt).trans (hCs 4 _ rfl)
        simp only [Nat.add_zero] at z0
        have hst := hid_of (all_at (f := isTy) ht'.out)
        have hbox := fun o => hid_of (hB.out.alloc hB.out.size o)
        have hbox2 := fun o => hid_of (hBt.out.alloc (by have := hBt.out.size; have := htb3.out; omega) o)
        have hi : (q : Int) < (1 : Int) := by have := hlen.out; omega
        rw [hai]
        clear hV hCs hr hg
        by_cases hk4 : v.k = 4
        · have hb4 : (v.k != 4) = false := by simp [hk4]
          obtain ⟨cs', hcs', hX'⟩ := hC.out
          have hTy := hid_of (hT.out.keep (hB.out.block _ hT0.out))
          have hadd := fun o => hid_of (addTy_any tb v.s cs' (wr.alloc o) (hid_of (hTy.out.keep (Below.heap_alloc _ _ _ (Nat.lt_of_lt_of_le hT0.out hB.out.size)))) (hid_of (by have := hT0.out; have := htb2.out; omega)) hcs' (hid_of ((Below.heap_alloc _ _ _ (Array.getElem?_eq_some_iff.1 hX').1).trans hX')))
          have hsT : Hid (isTy t' = tyName v.s) := by rw [Hid]; unfold isTy; rw [hvk.1, hvk.2, hk4]; simp
          clear hk4 hvk hX' hTy
          obtain ⟨kn, hkn⟩ : ∃ c, Hid (tyName v.s = c) := ⟨_, rfl⟩
          rw [hkn.out] at hadd hsT
          go_wp2_with fail
          refine (hadd _).out.mono ?_
          rintro e W1 ⟨rfl, hF1, cs1, hcs1, hX1⟩
          have hB1 := hid_of ((hbox (.cells #[.int .i64 v.k, .int .i64 v.x, .string v.s, .slice v.an v.ln v.cn, .slice v.ai v.li v.ci] 25)).out.trans (hF1.below (by have := (hbox (.cells #[.int .i64 v.k, .int .i64 v.x, .string v.s, .slice v.an v.ln v.cn, .slice v.ai v.li v.ci] 25)).out.size; exact this) (fun i e => by subst e; exact htb2.out)))
          have hB2 := hid_of ((hbox2 (.cells #[.int .i64 v.k, .int .i64 v.x, .string v.s, .slice v.an v.ln v.cn, .slice v.ai v.li v.ci] 25)).out.trans (hF1.below (by have := (hbox2 (.cells #[.int .i64 v.k, .int .i64 v.x, .string v.s, .slice v.an v.ln v.cn, .slice v.ai v.li v.ci] 25)).out.size; have := htb3.out; omega) (fun i e => by subst e; exact Nat.le_refl _)))
          replace hX1 := hid_of hX1
          clear hadd hF1 hbox hbox2 hC
          cases kn with
          | true =>
            have hZ2 : Hid ((if [t] ≠ [] ∧ (([t] : List Tr).drop (q + 1)).all isTy = true then 0 else 210) = z) := by
              rw [Hid, ← hZ.out, hst.out, hsT.out, Bool.true_and]
            go_wp2_with fail
            go_roundw
            case rel => exact ⟨q + 1, by omega, by go_num, hB1, hB2, ⟨cs1, hcs1, hX1.out⟩, hZ2⟩
            case measure => have := hlen.out; simp [intOf]; omega
          | false =>
            have hZ2 : Hid (z = 210) := by
              rw [Hid, ← hZ.out, hst.out, hsT.out]; simp
            go_wp2_with fail
            go_ret2
            exact ⟨_, _, rfl, hZ2.out.symm, hB1.out, by first | exact fun _ => ⟨_, _, rfl⟩ | (intro e; cases e)⟩
        · have hb4 : (v.k != 4) = true := by simp [hk4]
          have hZ2 : Hid (z = 210) := by
            have : isTy t' = false := by unfold isTy; rw [hvk.1]; simp [hk4]
            rw [Hid, ← hZ.out, hst.out, this]; simp
          clear hk4 hvk hst hZ
          go_wp2_with fail
          go_ret2
          exact ⟨_, _, rfl, hZ2.out.symm, (hbox _).out, by first | exact fun _ => ⟨_, _, rfl⟩ | (intro e; cases e)⟩
      · have e : ([t] : List Tr).drop q = [] := List.drop_eq_nil_of_le (by omega)
        have hZ2 : Hid ((if [t] ≠ [] then 0 else 210) = z) := by rw [Hid, ← hZ.out, e]; simp
        have hi : ¬ (q : Int) < (1 : Int) := by have := hlen.out; omega
        obtain ⟨cs', hcs', hX'⟩ := hC.out
        obtain ⟨c0, c1, c2, c3, c4, c5, c6, rfl⟩ := seven_of hcs'
        obtain ⟨e0, e1, e2, e3, e4, e5, e6⟩ := seven_cells hX'
        clear hlt e hX' hcs' hC
        by_cases h0 : [t] = ([] : List Tr)
        · have hb0 : ((1 : Int) == 0) = true := by exact absurd h0 (by simp)
          have hZ3 : Hid (z = 210) := by rw [Hid, ← hZ2.out, if_neg (fun h => h h0)]
          clear h0
          go_wp2_with fail
          go_ret2
          exact ⟨_, _, rfl, hZ3.out.symm, hB.out, by first | exact fun _ => ⟨_, _, rfl⟩ | (intro e; cases e)⟩
        · have hb0 : ((1 : Int) == 0) = false := by decide
          have hZ3 : Hid (z = 0) := by rw [Hid, ← hZ2.out, if_pos h0]
          clear h0
          go_wp2_with fail
          go_ret2
          exact ⟨_, _, rfl, hZ3.out.symm, hB.out, by first | exact fun _ => ⟨_, _, rfl⟩ | (intro e; cases e)⟩
end Go.Proofs.YtgjemghfejaifaaGreatDoor
