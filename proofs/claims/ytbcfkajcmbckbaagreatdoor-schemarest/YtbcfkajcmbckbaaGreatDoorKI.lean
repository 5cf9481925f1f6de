import Derived.Test.YtbcfkajcmbckbaaGreatDoorKC
import Derived.Deep.RegionHeld3
/-! schema: not, additional. -/
namespace Go.Proofs.YtbcfkajcmbckbaaGreatDoor
open Go Go.RowKit

theorem kept_below {S : Nat → Prop} {w w' : World} (hb : Below w.heap.size w w') : Kept S w w' := fun k _ hk => hb.block k hk
theorem RowR.later {w0 w w' : World} {bn : List ByteArray} {S : Nat → Prop} {a : Option Addr} {ns : List ByteArray} {its : List Tr} (h : RowR w0 bn w S a ns its) (hb : Below w.heap.size w w') : RowR w0 bn w' S a ns its := h.keep (kept_below hb) (fun _ h => h)
/-- A schema's rules are kept, or not, as keepsT says. -/
def KeepsOk (w0 : World) (t : Tr) : Prop := ∀ (x : Tr) (u : V5) (w : World) (a : Option Addr) (c : Nat) (S : Nat → Prop), RowR w0 (besideN t) w S a t.names t.items → Below w0.heap.size w0 w → VRep w x u.cs → SmallT x →
  Calls Tryz.prog 26 #[.slice a t.items.length c, u.v] w fun e w' => e = .returned (.bool (keepsT t x)) ∧ Below w.heap.size w w'
set_option maxHeartbeats 1000000 in
set_option maxRecDepth 100000 in
theorem not_keeps (w0 : World) (t : Tr) (hO : KeepsOk w0 t) (x : Tr) (u : V5) (w : World) (a : Option Addr) (c : Nat) (S : Nat → Prop) (hR : RowR w0 (besideN t) w S a t.names t.items) (hB : Below w0.heap.size w0 w) (hV : VRep w x u.cs) (hS : SmallT x) :
    Calls Tryz.prog 146 #[.slice a t.items.length c, u.v] w fun e w' => e = .returned (.bool (!keepsT t x)) ∧ Below w.heap.size w w' := by
  have hb := hid_of ((Below.refl _ w).alloc (Nat.le_refl _) (u.obj 25))
  have hcall := hid_of (hO x u _ a c S (hR.later hb.out) (hB.trans (hb.out.mono hB.size)) (VRep.keep hb.out _ _ hV) hS)
  obtain ⟨x0, x1, x2, x3, x4, -⟩ := row_cells (heap_alloc_new w (u.obj 25))
  obtain ⟨z, hz⟩ : ∃ z, Hid (keepsT t x = z) := ⟨_, rfl⟩
  rw [hz.out] at hcall ⊢
  unfold V5.obj at *
  unfold V5.v at *
  clear hR hB hV hO
  go_enter Tryz.func146, Tryz.ntmps146
  go_wp2_with fail
  refine hcall.out.mono ?_
  rintro e W ⟨rfl, hb2⟩
  have hB2 := hid_of (hb.out.trans (hb2.mono hb.out.size))
  clear hcall hb2 x0 x1 x2 x3 x4
  go_wp2_with fail
  go_ret
  exact ⟨ret_bool rfl, hB2.out⟩
theorem all_drop {l : List ByteArray} {f : ByteArray → Bool} {q : Nat} {s : ByteArray} (h : l[q]? = some s) : (l.drop q).all f = (f s && (l.drop (q + 1)).all f) := by
  have hlt := (List.getElem?_eq_some_iff.1 h).1
  rw [List.drop_eq_getElem_cons hlt, (List.getElem?_eq_some_iff.1 h).2, List.all_cons]
theorem rep_caps {w : World} {t : Tr} {v : V5} (h : VRep w t v.cs) : (v.ln ≤ v.cn ∧ v.cn ≤ 9223372036854775807) ∧ v.li ≤ 9223372036854775807 := by
  obtain ⟨k, x, s, ns, is⟩ := t
  unfold VRep V5.cs five at h
  obtain ⟨nm, a, c, e, h2, h3, -⟩ := h
  simp only [List.cons.injEq, Value.slice.injEq, and_true] at e
  obtain ⟨-, -, -, e1, e2, e3, e4⟩ := e
  obtain ⟨a', c', e5, h5, -⟩ := h2
  rw [← e1] at e5
  simp only [Value.slice.injEq] at e5
  omega
set_option maxHeartbeats 2000000 in
set_option maxRecDepth 100000 in
theorem additional_keeps (b : Bool) (mo : Option Nat) (bn : List ByteArray) (x : Tr) (u : V5) (w : World) (hV : VRep w x u.cs) (hS : SmallT x) (hm : b = false → ∃ m, mo = some m ∧ NumsAt w m bn.length (numsD bn)) :
    Calls Tryz.prog 114 #[.agg #[.bool b, .map mo], u.v] w fun e w' => e = .returned (.bool (b || (!(x.kind == 6) || (mbrsT x).all (memB bn)))) ∧ Below w.heap.size w w' := by
  have hb0 := (Below.refl _ w).alloc (Nat.le_refl _) (.cells #[.bool b, .map mo] 114)
  have hb := hid_of (hb0.alloc hb0.size (u.obj 25))
  obtain ⟨x0, x1, x2, x3, x4, -⟩ := row_cells (heap_alloc_new (w.alloc (.cells #[.bool b, .map mo] 114)) (u.obj 25))
  have n0 := new1 w (.cells #[.bool b, .map mo] 114) (u.obj 25)
  have a0 := (cell_of n0 0).trans rfl
  have a1 := (cell_of n0 1).trans rfl
  have hkd := (vrep_head hV).1
  obtain ⟨hnam, hnl⟩ := rep_names hV
  obtain ⟨-, hli⟩ := rep_row hV
  obtain ⟨hcn, hci⟩ := rep_caps hV
  have hsm := hid_of (small_parts hS)
  rw [World.size_alloc] at x0 x1 x2 x3 x4
  obtain ⟨R, hR⟩ : ∃ R, Hid ((b || (!(x.kind == 6) || (mbrsT x).all (memB bn))) = R) := ⟨_, rfl⟩
  rw [hR.out]
  have hmem := fun W => hid_of (members_any u W hcn hci)
  replace hnam := hid_of hnam
  replace hkd := hid_of hkd; replace hnl := hid_of hnl; replace hli := hid_of hli; replace hcn := hid_of hcn; replace hci := hid_of hci
  unfold V5.obj at *
  unfold V5.v at *
  clear hV hS n0
  go_enter Tryz.func114, Tryz.ntmps114
  cases b with
  | true =>
    have hr : Hid (R = true) := by rw [Hid, ← hR.out]; rfl
    rw [hr.out]
    clear hm hmem
    go_wp2_with fail
    go_ret
    exact ⟨ret_bool rfl, hb.out⟩
  | false =>
    obtain ⟨m, rfl, hN⟩ := hm rfl
    by_cases h6 : u.k = 6
    · have e6 : (u.k != 6) = false := by simp [h6]
      have hR2 : Hid (((mbrsT x).drop 0).all (memB bn) = R) := by rw [Hid, ← hR.out, hkd.out, h6]; rfl
      clear h6 hm
      go_wp2_with fail
      generalize (w.alloc (.cells #[.bool false, .map (some m)] 114)).alloc (.cells #[.int .i64 u.k, .int .i64 u.x, .string u.s, .slice u.an u.ln u.cn, .slice u.ai u.li u.ci] 25) = X at *
      refine (hmem _).out.mono ?_
      rintro e W ⟨c, rfl, hc, hbW⟩
      have hBW := hid_of (hb.out.trans (hbW.mono hb.out.size))
      have y1 := stay hbW a1
      have hNW := hid_of (hN.keep (hBW.out.block _ hN.lt))
      have hnW := hid_of (hnam.out.keep hBW.out)
      have hlen : Hid ((mbrsT x).length = min u.ln u.li) := by
        have h1 := hnl.out; have h2 := hli.out
        rw [Hid]; unfold mbrsT; rw [List.length_take]; omega
      clear x0 x1 x2 x3 x4 a0 a1 hmem hbW hN hnam hc
      go_wp2_with fail
      go_loopw [19] (fun i wr => ∃ q : Nat, q ≤ (mbrsT x).length ∧ i = .int .i64 q ∧ wr = W ∧ Hid (((mbrsT x).drop q).all (memB bn) = R)) (fun i _ => (mbrsT x).length - (intOf i).toNat)
      case atStart => exact ⟨0, Nat.zero_le _, rfl, rfl, hR2⟩
      case round =>
        obtain ⟨q, hq, rfl, hwr, hM⟩ := hrel
        replace hwr := hwr.symm
        subst hwr
        have hqb : (q : Int) ≤ 1759218604390 := by have h1 := hlen.out; have h2 := hli.out; have h3 := hsm.out.1; omega
        by_cases hlt : q < (mbrsT x).length
        · obtain ⟨s, hs⟩ : ∃ s, Hid ((mbrsT x)[q]? = some s) := ⟨_, hid_e (List.getElem?_eq_getElem hlt)⟩
          have hs2 : x.names[q]? = some s := by
            have h1 := hs.out
            unfold mbrsT at h1
            rw [List.getElem?_take] at h1
            split at h1
            · exact h1
            · cases h1
          obtain ⟨an', cn', e2, hc, h0⟩ := hnW.out
          simp only [Value.slice.injEq] at e2
          obtain ⟨e3, -, e4⟩ := e2
          obtain ⟨gn, on, e5, hgn, hA⟩ := h0.resolve_left (by intro e; rw [e] at hs2; simp at hs2)
          rw [← e3] at e5
          have nm0 : W.cell? ⟨gn, on + q, none⟩ = some (.string s) := hA q s hs2
          obtain ⟨z, hlk, -⟩ := look_nums hNW.out s (hsm.out.2.2.1 s (List.mem_of_getElem? hs2))
          rw [noOf_some] at hlk
          have hst := hid_of (all_drop (f := memB bn) hs.out)
          obtain ⟨kn, hkn⟩ : ∃ k, Hid (memB bn s = k) := ⟨_, rfl⟩
          rw [hkn.out] at hst hlk
          have hi : (q : Int) < ((min u.ln u.li : Nat) : Int) := by have := hlen.out; omega
          rw [e5]
          clear h0 hA hs2 e3 e4 e5 hgn hc
          cases kn with
          | true =>
            have hM2 : Hid (((mbrsT x).drop (q + 1)).all (memB bn) = R) := by rw [Hid, ← hM.out, hst.out]; simp
            go_wp2_with fail
            go_roundw
            case rel => exact ⟨q + 1, by omega, by go_num, by first | trivial | rfl, hM2⟩
            case measure => simp [intOf]; omega
          | false =>
            have hM2 : Hid (R = false) := by rw [Hid, ← hM.out, hst.out]; simp
            go_wp2_with fail
            go_ret
            exact ⟨ret_bool hM2.out.symm, hBW.out⟩
        · have e : (mbrsT x).drop q = [] := List.drop_eq_nil_of_le (by omega)
          have hi : ¬ (q : Int) < ((min u.ln u.li : Nat) : Int) := by have := hlen.out; omega
          have hM2 : Hid (R = true) := by rw [Hid, ← hM.out, e]; rfl
          clear hlt e
          go_wp2_with fail
          go_ret
          exact ⟨ret_bool hM2.out.symm, hBW.out⟩
    · have e6 : (u.k != 6) = true := by simp [h6]
      have hr : Hid (R = true) := by rw [Hid, ← hR.out, hkd.out]; simp [h6]
      rw [hr.out]
      clear h6 hm hmem
      go_wp2_with fail
      go_ret
      exact ⟨ret_bool rfl, hb.out⟩
end Go.Proofs.YtbcfkajcmbckbaaGreatDoor
/-! schema: items. -/
namespace Go.Proofs.YtbcfkajcmbckbaaGreatDoor
open Go Go.RowKit

set_option maxHeartbeats 1000000 in
set_option maxRecDepth 100000 in
theorem items_1 (w0 : World) (t : Tr) (hO : KeepsOk w0 t) (y : Tr) (u : V5) (w : World) (g : Nat) (a : Option Addr) (c : Nat) (S : Nat → Prop) (hg : w.cell? ⟨g, 0, none⟩ = some (.slice a t.items.length c)) (hR : RowR w0 (besideN t) w S a t.names t.items) (hB : Below w0.heap.size w0 w) (hV : VRep w y u.cs) (hS : SmallT y) :
    Calls Tryz.prog 118 #[u.v, .pointer (some ⟨g, 0, none⟩)] w fun e w' => e = .returned (.bool (!keepsT t y)) ∧ Below w.heap.size w w' := by
  have hb := hid_of ((Below.refl _ w).alloc (Nat.le_refl _) (u.obj 25))
  have hcall := hid_of (hO y u _ a c S (hR.later hb.out) (hB.trans (hb.out.mono hB.size)) (VRep.keep hb.out _ _ hV) hS)
  obtain ⟨x0, x1, x2, x3, x4, -⟩ := row_cells (heap_alloc_new w (u.obj 25))
  have g0 := stay hb.out hg
  obtain ⟨z, hz⟩ : ∃ z, Hid (keepsT t y = z) := ⟨_, rfl⟩
  rw [hz.out] at hcall ⊢
  unfold V5.obj at *
  unfold V5.v at *
  clear hR hB hV hO hg
  go_enter Tryz.func118, Tryz.ntmps118
  go_wp2_with fail
  refine hcall.out.mono ?_
  rintro e W ⟨rfl, hb2⟩
  have hB2 := hid_of (hb.out.trans (hb2.mono hb.out.size))
  clear hcall hb2 x0 x1 x2 x3 x4 g0
  go_wp2_with fail
  go_ret
  exact ⟨ret_bool rfl, hB2.out⟩
theorem any_at {l : List Tr} {f : Tr → Bool} {q : Nat} {t : Tr} (h : l[q]? = some t) : (l.drop q).any f = (f t || (l.drop (q + 1)).any f) := by
  have hlt := (List.getElem?_eq_some_iff.1 h).1
  rw [List.drop_eq_getElem_cons hlt, (List.getElem?_eq_some_iff.1 h).2, List.any_cons]
set_option maxHeartbeats 2000000 in
set_option maxRecDepth 100000 in
theorem items_index (w0 : World) (t : Tr) (hO : KeepsOk w0 t) (L : List Tr) (ai : Option Addr) (ci : Nat) (w : World) (g : Nat) (a : Option Addr) (c : Nat) (S : Nat → Prop) (hg : Hid (w.cell? ⟨g, 0, none⟩ = some (.slice a t.items.length c))) (hR : Hid (RowR w0 (besideN t) w S a t.names t.items)) (hB : Hid (Below w0.heap.size w0 w)) (hI : Hid (RowT w ai L)) (hS : Hid (SmallL L)) (hl : L.length ≤ 1759218604390) :
    Calls Tryz.prog 120 #[.slice ai L.length ci, .func (.func 118) #[] #[.pointer (some ⟨g, 0, none⟩)]] w fun e w' => ∃ z : Int, e = .returned (.int .i64 z) ∧ decide (0 ≤ z) = L.any (fun y => !keepsT t y) ∧ Below w.heap.size w w' := by
  obtain ⟨R, hRR⟩ : ∃ R, Hid (L.any (fun y => !keepsT t y) = R) := ⟨_, rfl⟩
  simp only [hRR.out]
  have h0 : Hid ((L.drop 0).any (fun y => !keepsT t y) = R) := hRR
  go_enter Tryz.func120, Tryz.ntmps120
  go_wp2_with fail
  go_loopw [8] (fun i wr => ∃ q : Nat, q ≤ L.length ∧ i = .int .i64 q ∧ Hid (Below w.heap.size w wr) ∧ Hid ((L.drop q).any (fun y => !keepsT t y) = R)) (fun i _ => L.length - (intOf i).toNat)
  case atStart => exact ⟨0, Nat.zero_le _, rfl, Below.refl _ _, h0⟩
  case round =>
    obtain ⟨q, hq, rfl, hBr, hM⟩ := hrel
    have hqb : (q : Int) ≤ 1759218604390 := by omega
    by_cases hlt : q < L.length
    · obtain ⟨y, hy⟩ : ∃ y, Hid (L[q]? = some y) := ⟨_, hid_e (List.getElem?_eq_getElem hlt)⟩
      obtain ⟨gi, oi, hai, hgi, hVL⟩ := hI.out.resolve_left (by intro e; subst e; simp at hlt)
      obtain ⟨cs, hCs, hr⟩ := VRepL.at L oi q y hVL hy.out
      obtain ⟨v, rfl⟩ := vrep_v5 hr
      have hcall := hid_of (items_1 w0 t hO y v wr g a c S (stay hBr.out hg.out) (hR.out.later hBr.out) (hB.out.trans (hBr.out.mono hB.out.size)) (VRep.keep hBr.out _ _ hr) (SmallL.at hS.out hy.out))
      unfold V5.cs five at hCs
      have z0 := stay hBr.out (hCs 0 _ rfl)
      have z1 := stay hBr.out (hCs 1 _ rfl)
      have z2 := stay hBr.out (hCs 2 _ rfl)
      have z3 := stay hBr.out (hCs 3 _ rfl)
      have z4 := stay hBr.out (hCs 4 _ rfl)
      simp only [Nat.add_zero] at z0
      have hst := hid_of (any_at (f := fun y => !keepsT t y) hy.out)
      obtain ⟨kn, hkn⟩ : ∃ k, Hid (keepsT t y = k) := ⟨_, rfl⟩
      simp only [hkn.out] at hst hcall
      have hi : (q : Int) < (L.length : Int) := by omega
      unfold V5.v at hcall
      rw [hai]
      clear hVL hCs hr hgi hai
      go_wp2_with fail
      refine hcall.out.mono ?_
      rintro e W ⟨rfl, hb2⟩
      have hB2 := hid_of (hBr.out.trans (hb2.mono hBr.out.size))
      clear hcall hb2 z0 z1 z2 z3 z4
      cases kn with
      | true =>
        have hM2 : Hid ((L.drop (q + 1)).any (fun y => !keepsT t y) = R) := by rw [Hid, ← hM.out, hst.out]; simp
        go_wp2_with fail
        go_roundw
        case rel => exact ⟨q + 1, by omega, by go_num, hB2, hM2⟩
        case measure => simp [intOf]; omega
      | false =>
        have hM2 : Hid (R = true) := by rw [Hid, ← hM.out, hst.out]; simp
        go_wp2_with fail
        go_ret
        exact ⟨(q : Int), rfl, by rw [hM2.out]; simp, hB2.out⟩
    · have e : L.drop q = [] := List.drop_eq_nil_of_le (by omega)
      have hi : ¬ (q : Int) < (L.length : Int) := by omega
      have hM2 : Hid (R = false) := by rw [Hid, ← hM.out, e]; rfl
      clear hlt e
      go_wp2_with fail
      go_ret
      exact ⟨-1, rfl, by rw [hM2.out]; decide, hBr.out⟩
set_option maxHeartbeats 1000000 in
set_option maxRecDepth 100000 in
theorem items_contains (f : Value) (ai : Option Addr) (l ci : Nat) (R : Bool) (w : World) (hI : Hid (Calls Tryz.prog 120 #[.slice ai l ci, f] w fun e w' => ∃ z : Int, e = .returned (.int .i64 z) ∧ decide (0 ≤ z) = R ∧ Below w.heap.size w w')) :
    Calls Tryz.prog 117 #[.slice ai l ci, f] w fun e w' => e = .returned (.bool R) ∧ Below w.heap.size w w' := by
  go_enter Tryz.func117, Tryz.ntmps117
  go_wp2_with fail
  refine hI.out.mono ?_
  rintro e W ⟨z, rfl, hz, hb⟩
  replace hz := hid_of hz; replace hb := hid_of hb
  go_wp2_with fail
  go_ret
  exact ⟨ret_bool hz.out, hb.out⟩
set_option maxHeartbeats 2000000 in
set_option maxRecDepth 100000 in
theorem items_keeps (w0 : World) (t : Tr) (hO : KeepsOk w0 t) (x : Tr) (u : V5) (w : World) (a : Option Addr) (c : Nat) (S : Nat → Prop) (hR : RowR w0 (besideN t) w S a t.names t.items) (hB : Below w0.heap.size w0 w) (hV : VRep w x u.cs) (hS : SmallT x) :
    Calls Tryz.prog 115 #[.slice a t.items.length c, u.v] w fun e w' => e = .returned (.bool (!(x.kind == 5) || x.items.all (fun y => keepsT t y))) ∧ Below w.heap.size w w' := by
  have hb0 := (Below.refl _ w).alloc (Nat.le_refl _) (.cells #[.slice a t.items.length c] 117)
  have hb := hid_of (hb0.alloc hb0.size (u.obj 25))
  obtain ⟨x0, x1, x2, x3, x4, -⟩ := row_cells (heap_alloc_new (w.alloc (.cells #[.slice a t.items.length c] 117)) (u.obj 25))
  have n0 := new1 w (.cells #[.slice a t.items.length c] 117) (u.obj 25)
  have g0 := (cell_of n0 0).trans rfl
  rw [World.size_alloc] at x0 x1 x2 x3 x4
  have hkd := hid_of (vrep_head hV).1
  obtain ⟨hrow, hli⟩ := rep_row hV
  have hsm := small_parts hS
  have hix := items_index w0 t hO x.items u.ai u.ci _ w.heap.size a c S (hid_of g0) (hid_of (hR.later hb.out)) (hid_of (hB.trans (hb.out.mono hB.size))) (hid_of (hrow.keep hb.out)) (hid_of hsm.2.2.2.1) hsm.1
  have hcn := hid_of (items_contains _ u.ai x.items.length u.ci _ _ (hid_of hix))
  rw [← hli] at hcn
  obtain ⟨R, hRR⟩ : ∃ R, Hid (x.items.any (fun y => !keepsT t y) = R) := ⟨_, rfl⟩
  rw [hRR.out] at hcn
  have hres : Hid ((!(x.kind == 5) || x.items.all (fun y => keepsT t y)) = (!(u.k == 5) || !R)) := by
    rw [Hid, ← hRR.out, hkd.out, List.all_eq_not_any_not]
  rw [hres.out]
  unfold V5.obj at *
  unfold V5.v at *
  clear hix hR hB hV hS hrow hli hsm n0 hb0
  go_enter Tryz.func115, Tryz.ntmps115
  by_cases h5 : u.k = 5
  · have e5 : (u.k != 5) = false := by simp [h5]
    have hr : Hid ((!(u.k == 5) || !R) = !R) := by rw [Hid, h5]; simp
    rw [hr.out]
    clear h5
    go_wp2_with fail
    refine hcn.out.mono ?_
    rintro e W ⟨rfl, hb2⟩
    have hB2 := hid_of (hb.out.trans (hb2.mono hb.out.size))
    clear hcn hb2 x0 x1 x2 x3 x4 g0
    go_wp2_with fail
    go_ret
    exact ⟨ret_bool rfl, hB2.out⟩
  · have e5 : (u.k != 5) = true := by simp [h5]
    have hr : Hid ((!(u.k == 5) || !R) = true) := by rw [Hid]; simp [h5]
    rw [hr.out]
    clear h5 hcn
    go_wp2_with fail
    go_ret
    exact ⟨ret_bool rfl, hb.out⟩
end Go.Proofs.YtbcfkajcmbckbaaGreatDoor
/-! schema: anyOf, allOf. -/
namespace Go.Proofs.YtbcfkajcmbckbaaGreatDoor
open Go Go.RowKit

theorem SchemasL.at {w0 w : World} {S : Nat → Prop} {b : Nat} : {its : List Tr} → {o q : Nat} → {t : Tr} → SchemasL w0 w S b o its → its[q]? = some t → ∃ a c, w.cell? ⟨b, o + q, none⟩ = some (.slice a t.items.length c) ∧ RowR w0 (besideN t) w S a t.names t.items
  | [], _, _, _, _, h => by simp at h
  | .node k x s ns its :: ts, o, 0, t, h, hq => by
    unfold SchemasL at h
    obtain ⟨⟨a, c, h1, h2⟩, -⟩ := h
    have e : Tr.node k x s ns its = t := by simpa using hq
    subst e
    exact ⟨a, c, by rw [Nat.add_zero]; exact h1, h2⟩
  | .node k x s ns its :: ts, o, q + 1, t, h, hq => by
    unfold SchemasL at h
    obtain ⟨a, c, h1, h2⟩ := SchemasL.at h.2 (by simpa using hq)
    exact ⟨a, c, by rw [show o + (q + 1) = o + 1 + q by omega]; exact h1, h2⟩
/-- Schemas in a row. -/
def RowS (w0 w : World) (S : Nat → Prop) (a : Option Addr) (its : List Tr) : Prop := its = [] ∨ ∃ b o, a = some ⟨b, o, none⟩ ∧ S b ∧ SchemasL w0 w S b o its
theorem RowS.later {w0 w w' : World} {S : Nat → Prop} {a : Option Addr} {its : List Tr} (h : RowS w0 w S a its) (hb : Below w.heap.size w w') : RowS w0 w' S a its := by
  rcases h with h | ⟨b, o, h1, h2, h3⟩
  · exact .inl h
  · exact .inr ⟨b, o, h1, h2, SchemasL.keep (kept_below hb) (fun _ h => h) h2 _ _ h3⟩
theorem keepsAny_eq : (its : List Tr) → (v : Tr) → keepsAny its v = its.any (fun t => keepsT t v)
  | [], _ => by rw [keepsAny]; rfl
  | .node k x s ns its :: ts, v => by rw [keepsAny, List.any_cons, keepsAny_eq ts v]; rfl
theorem keepsAll_eq : (its : List Tr) → (v : Tr) → keepsAll its v = its.all (fun t => keepsT t v)
  | [], _ => by rw [keepsAll]; rfl
  | .node k x s ns its :: ts, v => by rw [keepsAll, List.all_cons, keepsAll_eq ts v]; rfl
set_option maxHeartbeats 1000000 in
set_option maxRecDepth 100000 in
theorem anyOf_1 (w0 : World) (t : Tr) (hO : KeepsOk w0 t) (x : Tr) (u : V5) (w : World) (g : Nat) (a : Option Addr) (c : Nat) (S : Nat → Prop) (hg : w.heap[g]? = some (u.obj 25)) (hR : RowR w0 (besideN t) w S a t.names t.items) (hB : Below w0.heap.size w0 w) (hV : VRep w x u.cs) (hS : SmallT x) :
    Calls Tryz.prog 140 #[.slice a t.items.length c, .pointer (some ⟨g, 0, none⟩)] w fun e w' => e = .returned (.bool (keepsT t x)) ∧ Below w.heap.size w w' := by
  have hcall := hid_of (hO x u w a c S hR hB hV hS)
  obtain ⟨x0, x1, x2, x3, x4, -⟩ := row_cells hg
  obtain ⟨z, hz⟩ : ∃ z, Hid (keepsT t x = z) := ⟨_, rfl⟩
  rw [hz.out] at hcall ⊢
  unfold V5.v at *
  clear hR hB hV hO hg
  go_enter Tryz.func140, Tryz.ntmps140
  go_wp2_with fail
  refine hcall.out.mono ?_
  rintro e W ⟨rfl, hb2⟩
  replace hb2 := hid_of hb2
  clear hcall x0 x1 x2 x3 x4
  go_wp2_with fail
  go_ret
  exact ⟨ret_bool rfl, hb2.out⟩
set_option maxHeartbeats 2000000 in
set_option maxRecDepth 100000 in
theorem anyOf_index (w0 : World) (its : List Tr) (hO : Hid (∀ t ∈ its, KeepsOk w0 t)) (x : Tr) (u : V5) (ai : Option Addr) (ci : Nat) (w : World) (g : Nat) (S : Nat → Prop) (hg : Hid (w.heap[g]? = some (u.obj 25))) (hR : Hid (RowS w0 w S ai its)) (hB : Hid (Below w0.heap.size w0 w)) (hV : Hid (VRep w x u.cs)) (hS : Hid (SmallT x)) (hl : its.length ≤ 1759218604390) :
    Calls Tryz.prog 141 #[.slice ai its.length ci, .func (.func 140) #[] #[.pointer (some ⟨g, 0, none⟩)]] w fun e w' => ∃ z : Int, e = .returned (.int .i64 z) ∧ decide (0 ≤ z) = its.any (fun t => keepsT t x) ∧ Below w.heap.size w w' := by
  obtain ⟨R, hRR⟩ : ∃ R, Hid (its.any (fun t => keepsT t x) = R) := ⟨_, rfl⟩
  simp only [hRR.out]
  have h0 : Hid ((its.drop 0).any (fun t => keepsT t x) = R) := hRR
  go_enter Tryz.func141, Tryz.ntmps141
  go_wp2_with fail
  go_loopw [8] (fun i wr => ∃ q : Nat, q ≤ its.length ∧ i = .int .i64 q ∧ Hid (Below w.heap.size w wr) ∧ Hid ((its.drop q).any (fun t => keepsT t x) = R)) (fun i _ => its.length - (intOf i).toNat)
  case atStart => exact ⟨0, Nat.zero_le _, rfl, Below.refl _ _, h0⟩
  case round =>
    obtain ⟨q, hq, rfl, hBr, hM⟩ := hrel
    have hqb : (q : Int) ≤ 1759218604390 := by omega
    by_cases hlt : q < its.length
    · obtain ⟨t, ht⟩ : ∃ t, Hid (its[q]? = some t) := ⟨_, hid_e (List.getElem?_eq_getElem hlt)⟩
      obtain ⟨gi, oi, hai, hgi, hL⟩ := (hR.out.later hBr.out).resolve_left (by intro e; subst e; simp at hlt)
      obtain ⟨a, c, z0, hrow⟩ := SchemasL.at hL ht.out
      have hcall := hid_of (anyOf_1 w0 t (hO.out t (List.mem_of_getElem? ht.out)) x u wr g a c S ((hBr.out.block _ (Array.getElem?_eq_some_iff.1 hg.out).1).trans hg.out) hrow (hB.out.trans (hBr.out.mono hB.out.size)) (VRep.keep hBr.out _ _ hV.out) hS.out)
      have hst := hid_of (any_at (f := fun t => keepsT t x) ht.out)
      obtain ⟨kn, hkn⟩ : ∃ k, Hid (keepsT t x = k) := ⟨_, rfl⟩
      simp only [hkn.out] at hst hcall
      have hi : (q : Int) < (its.length : Int) := by omega
      rw [hai]
      clear hL hgi hai hrow
      go_wp2_with fail
      refine hcall.out.mono ?_
      rintro e W ⟨rfl, hb2⟩
      have hB2 := hid_of (hBr.out.trans (hb2.mono hBr.out.size))
      clear hcall hb2 z0
      cases kn with
      | false =>
        have hM2 : Hid ((its.drop (q + 1)).any (fun t => keepsT t x) = R) := by rw [Hid, ← hM.out, hst.out]; simp
        go_wp2_with fail
        go_roundw
        case rel => exact ⟨q + 1, by omega, by go_num, hB2, hM2⟩
        case measure => simp [intOf]; omega
      | true =>
        have hM2 : Hid (R = true) := by rw [Hid, ← hM.out, hst.out]; simp
        go_wp2_with fail
        go_ret
        exact ⟨(q : Int), rfl, by rw [hM2.out]; simp, hB2.out⟩
    · have e : its.drop q = [] := List.drop_eq_nil_of_le (by omega)
      have hi : ¬ (q : Int) < (its.length : Int) := by omega
      have hM2 : Hid (R = false) := by rw [Hid, ← hM.out, e]; rfl
      clear hlt e
      go_wp2_with fail
      go_ret
      exact ⟨-1, rfl, by rw [hM2.out]; decide, hBr.out⟩
set_option maxHeartbeats 1000000 in
set_option maxRecDepth 100000 in
theorem anyOf_contains (f : Value) (ai : Option Addr) (l ci : Nat) (R : Bool) (w : World) (hI : Hid (Calls Tryz.prog 141 #[.slice ai l ci, f] w fun e w' => ∃ z : Int, e = .returned (.int .i64 z) ∧ decide (0 ≤ z) = R ∧ Below w.heap.size w w')) :
    Calls Tryz.prog 139 #[.slice ai l ci, f] w fun e w' => e = .returned (.bool R) ∧ Below w.heap.size w w' := by
  go_enter Tryz.func139, Tryz.ntmps139
  go_wp2_with fail
  refine hI.out.mono ?_
  rintro e W ⟨z, rfl, hz, hb⟩
  replace hz := hid_of hz; replace hb := hid_of hb
  go_wp2_with fail
  go_ret
  exact ⟨ret_bool hz.out, hb.out⟩
set_option maxHeartbeats 1000000 in
set_option maxRecDepth 100000 in
theorem anyOf_keeps (w0 : World) (its : List Tr) (hO : Hid (∀ t ∈ its, KeepsOk w0 t)) (x : Tr) (u : V5) (w : World) (a : Option Addr) (c : Nat) (S : Nat → Prop) (hR : RowS w0 w S a its) (hB : Below w0.heap.size w0 w) (hV : VRep w x u.cs) (hS : SmallT x) (hl : its.length ≤ 1759218604390) :
    Calls Tryz.prog 138 #[.slice a its.length c, u.v] w fun e w' => e = .returned (.bool (its.any (fun t => keepsT t x))) ∧ Below w.heap.size w w' := by
  have hb := hid_of ((Below.refl _ w).alloc (Nat.le_refl _) (u.obj 25))
  have hix := anyOf_index w0 its hO x u a c _ w.heap.size S (hid_of (heap_alloc_new w (u.obj 25))) (hid_of (hR.later hb.out)) (hid_of (hB.trans (hb.out.mono hB.size))) (hid_of (VRep.keep hb.out _ _ hV)) (hid_of hS) hl
  have hcn := hid_of (anyOf_contains _ a its.length c _ _ (hid_of hix))
  obtain ⟨R, hRR⟩ : ∃ R, Hid (its.any (fun t => keepsT t x) = R) := ⟨_, rfl⟩
  rw [hRR.out] at hcn ⊢
  unfold V5.obj at *
  unfold V5.v at *
  clear hix hR hB hV hS
  go_enter Tryz.func138, Tryz.ntmps138
  go_wp2_with fail
  refine hcn.out.mono ?_
  rintro e W ⟨rfl, hb2⟩
  have hB2 := hid_of (hb.out.trans (hb2.mono hb.out.size))
  clear hcn hb2
  go_wp2_with fail
  go_ret
  exact ⟨ret_bool rfl, hB2.out⟩
set_option maxHeartbeats 1000000 in
set_option maxRecDepth 100000 in
theorem allOf_1 (w0 : World) (t : Tr) (hO : KeepsOk w0 t) (x : Tr) (u : V5) (w : World) (g : Nat) (a : Option Addr) (c : Nat) (S : Nat → Prop) (hg : w.heap[g]? = some (u.obj 25)) (hR : RowR w0 (besideN t) w S a t.names t.items) (hB : Below w0.heap.size w0 w) (hV : VRep w x u.cs) (hS : SmallT x) :
    Calls Tryz.prog 144 #[.slice a t.items.length c, .pointer (some ⟨g, 0, none⟩)] w fun e w' => e = .returned (.bool (!keepsT t x)) ∧ Below w.heap.size w w' := by
  have hcall := hid_of (hO x u w a c S hR hB hV hS)
  obtain ⟨x0, x1, x2, x3, x4, -⟩ := row_cells hg
  obtain ⟨z, hz⟩ : ∃ z, Hid (keepsT t x = z) := ⟨_, rfl⟩
  rw [hz.out] at hcall ⊢
  unfold V5.v at *
  clear hR hB hV hO hg
  go_enter Tryz.func144, Tryz.ntmps144
  go_wp2_with fail
  refine hcall.out.mono ?_
  rintro e W ⟨rfl, hb2⟩
  replace hb2 := hid_of hb2
  clear hcall x0 x1 x2 x3 x4
  go_wp2_with fail
  go_ret
  exact ⟨ret_bool rfl, hb2.out⟩
set_option maxHeartbeats 2000000 in
set_option maxRecDepth 100000 in
theorem allOf_index (w0 : World) (its : List Tr) (hO : Hid (∀ t ∈ its, KeepsOk w0 t)) (x : Tr) (u : V5) (ai : Option Addr) (ci : Nat) (w : World) (g : Nat) (S : Nat → Prop) (hg : Hid (w.heap[g]? = some (u.obj 25))) (hR : Hid (RowS w0 w S ai its)) (hB : Hid (Below w0.heap.size w0 w)) (hV : Hid (VRep w x u.cs)) (hS : Hid (SmallT x)) (hl : its.length ≤ 1759218604390) :
    Calls Tryz.prog 145 #[.slice ai its.length ci, .func (.func 144) #[] #[.pointer (some ⟨g, 0, none⟩)]] w fun e w' => ∃ z : Int, e = .returned (.int .i64 z) ∧ decide (0 ≤ z) = its.any (fun t => !keepsT t x) ∧ Below w.heap.size w w' := by
  obtain ⟨R, hRR⟩ : ∃ R, Hid (its.any (fun t => !keepsT t x) = R) := ⟨_, rfl⟩
  simp only [hRR.out]
  have h0 : Hid ((its.drop 0).any (fun t => !keepsT t x) = R) := hRR
  go_enter Tryz.func145, Tryz.ntmps145
  go_wp2_with fail
  go_loopw [8] (fun i wr => ∃ q : Nat, q ≤ its.length ∧ i = .int .i64 q ∧ Hid (Below w.heap.size w wr) ∧ Hid ((its.drop q).any (fun t => !keepsT t x) = R)) (fun i _ => its.length - (intOf i).toNat)
  case atStart => exact ⟨0, Nat.zero_le _, rfl, Below.refl _ _, h0⟩
  case round =>
    obtain ⟨q, hq, rfl, hBr, hM⟩ := hrel
    have hqb : (q : Int) ≤ 1759218604390 := by omega
    by_cases hlt : q < its.length
    · obtain ⟨t, ht⟩ : ∃ t, Hid (its[q]? = some t) := ⟨_, hid_e (List.getElem?_eq_getElem hlt)⟩
      obtain ⟨gi, oi, hai, hgi, hL⟩ := (hR.out.later hBr.out).resolve_left (by intro e; subst e; simp at hlt)
      obtain ⟨a, c, z0, hrow⟩ := SchemasL.at hL ht.out
      have hcall := hid_of (allOf_1 w0 t (hO.out t (List.mem_of_getElem? ht.out)) x u wr g a c S ((hBr.out.block _ (Array.getElem?_eq_some_iff.1 hg.out).1).trans hg.out) hrow (hB.out.trans (hBr.out.mono hB.out.size)) (VRep.keep hBr.out _ _ hV.out) hS.out)
      have hst := hid_of (any_at (f := fun t => !keepsT t x) ht.out)
      obtain ⟨kn, hkn⟩ : ∃ k, Hid (keepsT t x = k) := ⟨_, rfl⟩
      simp only [hkn.out] at hst hcall
      have hi : (q : Int) < (its.length : Int) := by omega
      rw [hai]
      clear hL hgi hai hrow
      go_wp2_with fail
      refine hcall.out.mono ?_
      rintro e W ⟨rfl, hb2⟩
      have hB2 := hid_of (hBr.out.trans (hb2.mono hBr.out.size))
      clear hcall hb2 z0
      cases kn with
      | true =>
        have hM2 : Hid ((its.drop (q + 1)).any (fun t => !keepsT t x) = R) := by rw [Hid, ← hM.out, hst.out]; simp
        go_wp2_with fail
        go_roundw
        case rel => exact ⟨q + 1, by omega, by go_num, hB2, hM2⟩
        case measure => simp [intOf]; omega
      | false =>
        have hM2 : Hid (R = true) := by rw [Hid, ← hM.out, hst.out]; simp
        go_wp2_with fail
        go_ret
        exact ⟨(q : Int), rfl, by rw [hM2.out]; simp, hB2.out⟩
    · have e : its.drop q = [] := List.drop_eq_nil_of_le (by omega)
      have hi : ¬ (q : Int) < (its.length : Int) := by omega
      have hM2 : Hid (R = false) := by rw [Hid, ← hM.out, e]; rfl
      clear hlt e
      go_wp2_with fail
      go_ret
      exact ⟨-1, rfl, by rw [hM2.out]; decide, hBr.out⟩
set_option maxHeartbeats 1000000 in
set_option maxRecDepth 100000 in
theorem allOf_contains (f : Value) (ai : Option Addr) (l ci : Nat) (R : Bool) (w : World) (hI : Hid (Calls Tryz.prog 145 #[.slice ai l ci, f] w fun e w' => ∃ z : Int, e = .returned (.int .i64 z) ∧ decide (0 ≤ z) = R ∧ Below w.heap.size w w')) :
    Calls Tryz.prog 143 #[.slice ai l ci, f] w fun e w' => e = .returned (.bool R) ∧ Below w.heap.size w w' := by
  go_enter Tryz.func143, Tryz.ntmps143
  go_wp2_with fail
  refine hI.out.mono ?_
  rintro e W ⟨z, rfl, hz, hb⟩
  replace hz := hid_of hz; replace hb := hid_of hb
  go_wp2_with fail
  go_ret
  exact ⟨ret_bool hz.out, hb.out⟩
set_option maxHeartbeats 1000000 in
set_option maxRecDepth 100000 in
theorem allOf_keeps (w0 : World) (its : List Tr) (hO : Hid (∀ t ∈ its, KeepsOk w0 t)) (x : Tr) (u : V5) (w : World) (a : Option Addr) (c : Nat) (S : Nat → Prop) (hR : RowS w0 w S a its) (hB : Below w0.heap.size w0 w) (hV : VRep w x u.cs) (hS : SmallT x) (hl : its.length ≤ 1759218604390) :
    Calls Tryz.prog 142 #[.slice a its.length c, u.v] w fun e w' => e = .returned (.bool (!its.any (fun t => !keepsT t x))) ∧ Below w.heap.size w w' := by
  have hb := hid_of ((Below.refl _ w).alloc (Nat.le_refl _) (u.obj 25))
  have hix := allOf_index w0 its hO x u a c _ w.heap.size S (hid_of (heap_alloc_new w (u.obj 25))) (hid_of (hR.later hb.out)) (hid_of (hB.trans (hb.out.mono hB.size))) (hid_of (VRep.keep hb.out _ _ hV)) (hid_of hS) hl
  have hcn := hid_of (allOf_contains _ a its.length c _ _ (hid_of hix))
  obtain ⟨R, hRR⟩ : ∃ R, Hid (its.any (fun t => !keepsT t x) = R) := ⟨_, rfl⟩
  rw [hRR.out] at hcn ⊢
  unfold V5.obj at *
  unfold V5.v at *
  clear hix hR hB hV hS
  go_enter Tryz.func142, Tryz.ntmps142
  go_wp2_with fail
  refine hcn.out.mono ?_
  rintro e W ⟨rfl, hb2⟩
  have hB2 := hid_of (hb.out.trans (hb2.mono hb.out.size))
  clear hcn hb2
  go_wp2_with fail
  go_ret
  exact ⟨ret_bool rfl, hB2.out⟩
end Go.Proofs.YtbcfkajcmbckbaaGreatDoor
/-! Texts that are compared; a list's text. -/
namespace Go.Proofs.YtbcfkajcmbckbaaGreatDoor
open Go Go.RowKit

theorem str_beq (a b : ByteArray) : (a.toList == b.toList) = decide (a = b) := by
  rw [Bool.eq_iff_iff, beq_iff_eq, decide_eq_true_eq, ByteArray.toList_eq, ByteArray.toList_eq]
  exact ⟨fun h => ByteArray.ext (Array.toList_inj.1 h), fun h => by rw [h]⟩
theorem reads_at {w : World} {an : Option Addr} {N cn : Nat} {ns : List ByteArray} (h : Reads w (.slice an N cn) ns) {q : Nat} {a : ByteArray} (hq : ns[q]? = some a) : ∃ g o, an = some ⟨g, o, none⟩ ∧ w.cell? ⟨g, o + q, none⟩ = some (.string a) := by
  obtain ⟨a0, c0, e, -, h⟩ := h
  obtain ⟨g, o, rfl, -, h⟩ := h.resolve_left (by intro e; subst e; simp at hq)
  simp only [Value.slice.injEq] at e
  exact ⟨g, o, e.1, h q a hq⟩
end Go.Proofs.YtbcfkajcmbckbaaGreatDoor
/-! Equal of every two values: the names. -/
namespace Go.Proofs.YtbcfkajcmbckbaaGreatDoor
open Go Go.RowKit

set_option maxHeartbeats 2000000 in
set_option maxRecDepth 100000 in
theorem seq_code (an : Option Addr) (cn : Nat) (ns : List ByteArray) (an' : Option Addr) (cn' : Nat) (ns' : List ByteArray) (w : World) (hm : ns.length ≤ 9223372036854775806) (hN : Hid (Reads w (.slice an ns.length cn) ns)) (hN' : Hid (Reads w (.slice an' ns'.length cn') ns')) :
    Calls Tryz.prog 98 #[.slice an ns.length cn, .slice an' ns'.length cn'] w fun e w' => e = .returned (.bool (decide (ns = ns'))) ∧ Below w.heap.size w w' := by
  obtain ⟨R, hR⟩ : ∃ R, Hid (decide (ns = ns') = R) := ⟨_, hid_e rfl⟩
  rw [hR.out]
  by_cases hl : ns.length = ns'.length
  · have hlb : ((ns.length : Int) == (ns'.length : Int)) = true := by simp [hl]
    go_enter Tryz.func98, Tryz.ntmps98
    go_wp2_with fail
    go_loopw [13] (fun i wr => ∃ q : Nat, q ≤ ns.length ∧ i = .int .i64 q ∧ Below w.heap.size w wr ∧ Hid (ns.take q = ns'.take q)) (fun i _ => ns.length - (intOf i).toNat)
    case atStart => exact ⟨0, Nat.zero_le _, rfl, Below.refl _ _, by simp [Hid]⟩
    case round =>
      obtain ⟨q, hq, rfl, HB, HT⟩ := hrel
      by_cases hlt : q < ns.length
      · obtain ⟨a, ha⟩ : ∃ a, Hid (ns[q]? = some a) := ⟨_, hid_e (List.getElem?_eq_getElem hlt)⟩
        obtain ⟨b, hb⟩ : ∃ a, Hid (ns'[q]? = some a) := ⟨_, hid_e (List.getElem?_eq_getElem (by omega))⟩
        obtain ⟨g, o, rfl, hc⟩ := reads_at hN.out ha.out
        obtain ⟨g', o', rfl, hc'⟩ := reads_at hN'.out hb.out
        have n1 := stay HB hc
        have n2 := stay HB hc'
        have i1 : (q : Int) < (ns.length : Int) := by omega
        have i2 : (0 : Int) ≤ (q : Int) := by omega
        have i3 : (q : Int) < (ns'.length : Int) := by omega
        have hd : decide ((q : Int) < (ns.length : Int)) = true := by simp; omega
        clear hc hc'
        by_cases hab : a = b
        · subst hab
          have HT' : Hid (ns.take (q + 1) = ns'.take (q + 1)) := by rw [Hid, List.take_add_one, List.take_add_one, ha.out, hb.out, HT.out]
          go_wp2_with fail
          go_quiet (fail)
          go_wp2_with fail
          go_roundw
          case rel => exact ⟨q + 1, by omega, by go_num, below_drewN HB nq, HT'⟩
          case measure => simp [intOf]; omega
        · have b1 : (a.toList == b.toList) = false := by rw [str_beq]; simpa using hab
          have hRf : R = false := by
            rw [← hR.out]
            refine decide_eq_false (fun e => hab ?_)
            have h1 := ha.out
            rw [e, hb.out] at h1
            exact (Option.some.inj h1).symm
          go_wp2_with fail
          go_quiet (fail)
          go_wp2_with fail
          go_ret
          exact ⟨ret_bool hRf.symm, below_drewN HB nq⟩
      · have hd : decide ((q : Int) < (ns.length : Int)) = false := by simp; omega
        have hRt : R = true := by
          rw [← hR.out]
          refine decide_eq_true ?_
          have h1 := HT.out
          rwa [List.take_of_length_le (by omega), List.take_of_length_le (by omega)] at h1
        go_wp2_with fail
        go_ret
        exact ⟨ret_bool hRt.symm, HB⟩
  · have hlb : ((ns.length : Int) == (ns'.length : Int)) = false := by simp; omega
    have hRf : R = false := by
      rw [← hR.out]
      exact decide_eq_false (fun e => hl (by rw [e]))
    go_enter Tryz.func98, Tryz.ntmps98
    go_wp2_with fail
    go_ret
    exact ⟨ret_bool hRf.symm, Below.refl _ _⟩
end Go.Proofs.YtbcfkajcmbckbaaGreatDoor
/-! Equal of every two values. -/
namespace Go.Proofs.YtbcfkajcmbckbaaGreatDoor
open Go Go.RowKit

/-- Are two values the same? -/
theorem eqT_true {t u : Tr} (h : t = u) : eqT t u = true := by unfold eqT; simpa using h
theorem eqT_false {t u : Tr} (h : t ≠ u) : eqT t u = false := by unfold eqT; simpa using h
theorem eqT_iff {t u : Tr} : eqT t u = true ↔ t = u := by unfold eqT; simp
noncomputable def eqL (t u : List Tr) : Bool := @decide (t = u) (Classical.propDecidable _)
theorem eqL_true {t u : List Tr} (h : t = u) : eqL t u = true := by unfold eqL; simpa using h
theorem eqL_false {t u : List Tr} (h : t ≠ u) : eqL t u = false := by unfold eqL; simpa using h

def EqOks (its its' : List Tr) : Prop := ∀ (i : Nat) (u v : Tr), its[i]? = some u → its'[i]? = some v → ∀ cs cs' w', VRep w' u cs → VRep w' v cs' → Calls Tryz.prog 96 #[.agg cs.toArray, .agg cs'.toArray] w' fun e w'' => e = .returned (.bool (eqT u v)) ∧ Below w'.heap.size w' w''
set_option maxHeartbeats 4000000 in
set_option maxRecDepth 100000 in
theorem feq_code (a : Option Addr) (c : Nat) (its : List Tr) (a' : Option Addr) (c' : Nat) (its' : List Tr) (w : World) (hm : its.length ≤ 9223372036854775806) (hL : Hid (ItemsAt' w a its)) (hL' : Hid (ItemsAt' w a' its')) (hI : Hid (EqOks its its')) :
    Calls Tryz.prog 99 #[.slice a its.length c, .slice a' its'.length c', .func (.func 96) #[] #[]] w fun e w' => e = .returned (.bool (eqL its its')) ∧ Below w.heap.size w w' := by
  obtain ⟨R, hR⟩ : ∃ R, Hid (eqL its its' = R) := ⟨_, hid_e rfl⟩
  rw [hR.out]
  by_cases hl : its.length = its'.length
  · have hlb : ((its.length : Int) != (its'.length : Int)) = false := by simp [hl]
    replace hl := hid_e hl
    go_enter Tryz.func99, Tryz.ntmps99
    go_wp2_with fail
    go_loopw [17] (fun i wr => ∃ q : Nat, q ≤ its.length ∧ i = .int .i64 q ∧ Below w.heap.size w wr ∧ Hid (its.take q = its'.take q)) (fun i _ => its.length - (intOf i).toNat)
    case atStart => exact ⟨0, Nat.zero_le _, rfl, Below.refl _ _, by simp [Hid]⟩
    case round =>
      obtain ⟨q, hq, rfl, HB, HT⟩ := hrel
      by_cases hlt : q < its.length
      · obtain ⟨u, hu⟩ : ∃ a, Hid (its[q]? = some a) := ⟨_, hid_e (List.getElem?_eq_getElem hlt)⟩
        obtain ⟨v, hv⟩ : ∃ a, Hid (its'[q]? = some a) := ⟨_, hid_e (List.getElem?_eq_getElem (by rw [← hl.out]; exact hlt))⟩
        obtain ⟨b, o, rfl, hb, hV⟩ := hL.out.resolve_left (by intro e; subst e; simp at hlt)
        obtain ⟨b', o', rfl, hb', hV'⟩ := hL'.out.resolve_left (by intro e; have h1 := hl.out; rw [e] at h1; simp only [List.length_nil] at h1; omega)
        obtain ⟨cs, hC, hr⟩ := VRepL.at its o q u hV hu.out
        obtain ⟨cs', hC', hr'⟩ := VRepL.at its' o' q v hV' hv.out
        obtain ⟨k1, x1, s1, an1, ln1, cn1, ai1, li1, ci1, rfl⟩ := vrep_five hr
        obtain ⟨k2, x2, s2, an2, ln2, cn2, ai2, li2, ci2, rfl⟩ := vrep_five hr'
        have y0 := stay HB (hC 0 _ rfl)
        have y1 := stay HB (hC 1 _ rfl)
        have y2 := stay HB (hC 2 _ rfl)
        have y3 := stay HB (hC 3 _ rfl)
        have y4 := stay HB (hC 4 _ rfl)
        have HCA := hid_e hC'
        simp only [Nat.add_zero] at y0
        have i1 : (q : Int) < (its.length : Int) := by omega
        have i3 : (q : Int) < (its'.length : Int) := by rw [← hl.out]; omega
        have hd : decide ((q : Int) < (its.length : Int)) = true := by simp; omega
        have hsz := HB.size
        clear hV hV' hC hC'
        go_upto_region 6 with fail
        have HB2 := HB.alloc hsz (.cells #[.int .i64 k1, .int .i64 x1, .string s1, .slice an1 ln1 cn1, .slice ai1 li1 ci1] 25)
        have hg := heap_alloc_new wr (.cells #[.int .i64 k1, .int .i64 x1, .string s1, .slice an1 ln1 cn1, .slice ai1 li1 ci1] 25)
        generalize hW2 : wr.alloc (.cells #[.int .i64 k1, .int .i64 x1, .string s1, .slice an1 ln1 cn1, .slice ai1 li1 ci1] 25) = W2 at HB2 hg ⊢
        clear y0 y1 y2 y3 y4
        have z0 := stay HB2 (HCA.out 0 _ rfl)
        have z1 := stay HB2 (HCA.out 1 _ rfl)
        have z2 := stay HB2 (HCA.out 2 _ rfl)
        have z3 := stay HB2 (HCA.out 3 _ rfl)
        have z4 := stay HB2 (HCA.out 4 _ rfl)
        simp only [Nat.add_zero] at z0
        have hs2 : wr.heap.size < W2.heap.size := by rw [← hW2, World.size_alloc]; omega
        clear hW2
        go_upto_region 7 with fail
        have HB3 := HB2.alloc HB2.size (.cells #[.int .i64 k2, .int .i64 x2, .string s2, .slice an2 ln2 cn2, .slice ai2 li2 ci2] 25)
        have hg2 := heap_alloc_new W2 (.cells #[.int .i64 k2, .int .i64 x2, .string s2, .slice an2 ln2 cn2, .slice ai2 li2 ci2] 25)
        have hg1 := (alloc_old (o := .cells #[.int .i64 k2, .int .i64 x2, .string s2, .slice an2 ln2 cn2, .slice ai2 li2 ci2] 25) hs2).trans hg
        generalize W2.alloc (.cells #[.int .i64 k2, .int .i64 x2, .string s2, .slice an2 ln2 cn2, .slice ai2 li2 ci2] 25) = W3 at HB3 hg1 hg2 ⊢
        clear z0 z1 z2 z3 z4 hg
        have hcall := hid_e (hI.out q u v hu.out hv.out _ _ W3 (VRep.keep HB3 _ _ hr) (VRep.keep HB3 _ _ hr'))
        obtain ⟨r, hr0⟩ : ∃ r, Hid (eqT u v = r) := ⟨_, hid_e rfl⟩
        rw [hr0.out] at hcall
        obtain ⟨e0, e1, e2, e3, e4, -⟩ := row_cells hg1
        obtain ⟨f0, f1, f2, f3, f4, -⟩ := row_cells hg2
        clear hr hr'
        go_wp2_with fail
        clear e0 e1 e2 e3 e4 f0 f1 f2 f3 f4
        go_fit hcall.out
        rintro e W4 ⟨rfl, hb4⟩
        have HB4 : Below w.heap.size w W4 := HB3.trans (hb4.mono HB3.size)
        clear hb4 hcall
        cases r
        · have hRf : R = false := by
            rw [← hR.out]
            refine eqL_false (fun e => ?_)
            have h1 := hu.out
            rw [e, hv.out] at h1
            have h2 := hr0.out
            rw [eqT_true (Option.some.inj h1).symm] at h2
            cases h2
          go_wp2_with fail
          go_ret
          exact ⟨ret_bool hRf.symm, HB4⟩
        · have HT' : Hid (its.take (q + 1) = its'.take (q + 1)) := by rw [Hid, List.take_add_one, List.take_add_one, hu.out, hv.out, HT.out, eqT_iff.1 hr0.out]
          go_wp2_with fail
          go_roundw
          case rel => exact ⟨q + 1, by omega, by go_num, HB4, HT'⟩
          case measure => simp [intOf]; omega
      · have hd : decide ((q : Int) < (its.length : Int)) = false := by simp; omega
        have hRt : R = true := by
          rw [← hR.out]
          refine eqL_true ?_
          have h1 := HT.out
          rwa [List.take_of_length_le (by omega), List.take_of_length_le (by rw [← hl.out]; omega)] at h1
        go_wp2_with fail
        go_ret
        exact ⟨ret_bool hRt.symm, HB⟩
  · have hlb : ((its.length : Int) == (its'.length : Int)) = false := by simp; omega
    have hRf : R = false := by
      rw [← hR.out]
      exact eqL_false (fun e => hl (by rw [e]))
    go_enter Tryz.func99, Tryz.ntmps99
    go_wp2_with fail
    go_ret
    exact ⟨ret_bool hRf.symm, Below.refl _ _⟩
end Go.Proofs.YtbcfkajcmbckbaaGreatDoor
/-! Equal of every two values: the walk down. -/
namespace Go.Proofs.YtbcfkajcmbckbaaGreatDoor
open Go Go.RowKit

set_option maxHeartbeats 4000000 in
set_option maxRecDepth 100000 in
theorem jeq_one (k x : Int) (s : ByteArray) (an : Option Addr) (cn : Nat) (ns : List ByteArray) (a : Option Addr) (c : Nat) (its : List Tr) (k' x' : Int) (s' : ByteArray) (an' : Option Addr) (cn' : Nat) (ns' : List ByteArray) (a' : Option Addr) (c' : Nat) (its' : List Tr) (w : World)
    (hm : its.length ≤ 9223372036854775806) (hnm : ns.length ≤ 9223372036854775806) (hN : Hid (Reads w (.slice an ns.length cn) ns)) (hN' : Hid (Reads w (.slice an' ns'.length cn') ns')) (hL : Hid (ItemsAt' w a its)) (hL' : Hid (ItemsAt' w a' its')) (hI : Hid (EqOks its its')) :
    Calls Tryz.prog 96 #[.agg #[.int .i64 k, .int .i64 x, .string s, .slice an ns.length cn, .slice a its.length c], .agg #[.int .i64 k', .int .i64 x', .string s', .slice an' ns'.length cn', .slice a' its'.length c']] w fun e w' => e = .returned (.bool (eqT (.node k x s ns its) (.node k' x' s' ns' its'))) ∧ Below w.heap.size w w' := by
  obtain ⟨R, hR⟩ : ∃ R, Hid (eqT (.node k x s ns its) (.node k' x' s' ns' its') = R) := ⟨_, hid_e rfl⟩
  rw [hR.out]
  have hF : Hid (¬ (k = k' ∧ x = x' ∧ s = s' ∧ ns = ns' ∧ its = its') → R = false) := fun h => by rw [← hR.out]; exact eqT_false (fun e => h (by injection e with e1 e2 e3 e4 e5; exact ⟨e1, e2, e3, e4, e5⟩))
  have hB2 : ∀ p q, Below w.heap.size w ((w.alloc p).alloc q) := fun p q => ((Below.refl _ w).alloc (Nat.le_refl _) p).alloc (by simp) q
  by_cases ek : k = k'
  rotate_left
  · have b1 : (k == k') = false := by simpa using ek
    obtain rfl : R = false := hF.out (fun h => ek h.1)
    clear hF hI hL hL' hN hN'
    go_enter Tryz.func96, Tryz.ntmps96
    go_wp2_with fail
    go_ret
    exact ⟨rfl, hB2 _ _⟩
  subst ek
  by_cases ex : x = x'
  rotate_left
  · have b1 : (x == x') = false := by simpa using ex
    obtain rfl : R = false := hF.out (fun h => ex h.2.1)
    clear hF hI hL hL' hN hN'
    go_enter Tryz.func96, Tryz.ntmps96
    go_wp2_with fail
    go_ret
    exact ⟨rfl, hB2 _ _⟩
  subst ex
  by_cases es : s = s'
  rotate_left
  · have b1 : (s.toList == s'.toList) = false := by rw [str_beq]; simpa using es
    obtain rfl : R = false := hF.out (fun h => es h.2.2.1)
    clear hF hI hL hL' hN hN'
    go_enter Tryz.func96, Tryz.ntmps96
    go_wp2_with fail
    go_ret
    exact ⟨rfl, hB2 _ _⟩
  subst es
  obtain ⟨N, hNd⟩ : ∃ z, Hid (decide (ns = ns') = z) := ⟨_, hid_e rfl⟩
  obtain ⟨M, hMd⟩ : ∃ z, Hid (eqL its its' = z) := ⟨_, hid_e rfl⟩
  have hc1 := fun p q => hid_e (seq_code an cn ns an' cn' ns' ((w.alloc p).alloc q) hnm (hid_e (hN.out.keep (hB2 p q))) (hid_e (hN'.out.keep (hB2 p q))))
  rw [hNd.out] at hc1
  have hc2 := fun w' hb => hid_e (feq_code a c its a' c' its' w' hm (hid_e (itemsAt_keep hL.out hb)) (hid_e (itemsAt_keep hL'.out hb)) hI)
  rw [hMd.out] at hc2
  clear hN hN' hL hL' hI
  go_enter Tryz.func96, Tryz.ntmps96
  go_wp2_with fail
  go_fit (hc1 _ _).out
  rintro e w1 ⟨rfl, hb1⟩
  have hbw1 := (hB2 _ _).trans (hb1.mono (hB2 _ _).size)
  have n1 := (hb1.block w.heap.size (by simp; omega)).trans (new1 w _ _)
  have n2 := (hb1.block (w.heap.size + 1) (by simp)).trans (new2 w _ _)
  clear hb1 hc1
  cases N
  · obtain rfl : R = false := hF.out (fun h => by have h1 := hNd.out; rw [decide_eq_true h.2.2.2.1] at h1; cases h1)
    go_wp2_with fail
    go_ret
    exact ⟨rfl, hbw1⟩
  obtain ⟨-, -, -, -, e4, -⟩ := row_cells n1
  obtain ⟨-, -, -, -, f4, -⟩ := row_cells n2
  have hc3 := hc2 w1 hbw1
  clear hc2
  go_wp2_with fail
  clear e4 f4
  go_fit hc3.out
  rintro e w2 ⟨rfl, hb2⟩
  have hbw2 := hbw1.trans (hb2.mono hbw1.size)
  clear hb2 hc3
  have hRM : R = M := by
    cases M
    · exact hF.out (fun h => by have h1 := hMd.out; rw [eqL_true h.2.2.2.2] at h1; cases h1)
    · have h1 := hMd.out
      unfold eqL at h1
      have h2 : its = its' := by simpa using h1
      have h3 : ns = ns' := by simpa using hNd.out
      rw [← hR.out, h2, h3]
      exact eqT_true rfl
  subst hRM
  go_wp2_with fail
  go_ret
  exact ⟨rfl, hbw2⟩

theorem jeq_any (t u : Tr) (cs cs' : List Value) (w : World) (hV : VRep w t cs) (hV' : VRep w u cs') (hS : SmallT t) :
    Calls Tryz.prog 96 #[.agg cs.toArray, .agg cs'.toArray] w fun e w' => e = .returned (.bool (eqT t u)) ∧ Below w.heap.size w w' := by
  match t, u, hV, hV', hS with
  | .node k x s ns its, .node k' x' s' ns' its', hV, hV', hS =>
    unfold VRep at hV hV'
    unfold SmallT at hS
    obtain ⟨nm, a, c, rfl, hn, hc, hI⟩ := hV
    obtain ⟨nm', a', c', rfl, hn', hc', hI'⟩ := hV'
    obtain ⟨an, cn, rfl, -, -⟩ := id hn
    obtain ⟨an', cn', rfl, -, -⟩ := id hn'
    obtain ⟨hs1, hs2, hs3, hs4, hs5⟩ := hS
    refine jeq_one k x s an cn ns a c its k' x' s' an' cn' ns' a' c' its' w (by omega) (by omega) (hid_e hn) (hid_e hn') (hid_e hI) (hid_e hI') (hid_e (fun i v v' hu hu' ds ds' w' h1 h2 => ?_))
    have hlt : SizeOf.sizeOf v < SizeOf.sizeOf its := tr_lt hu
    exact jeq_any v v' ds ds' w' h1 h2 (SmallL.at hs5 hu)
termination_by SizeOf.sizeOf t
decreasing_by simp only [Tr.node.sizeOf_spec]; omega
end Go.Proofs.YtbcfkajcmbckbaaGreatDoor
/-! schema: enum. -/
namespace Go.Proofs.YtbcfkajcmbckbaaGreatDoor
open Go Go.RowKit

theorem jeq_v5 (t x : Tr) (u v : V5) (w : World) (hV : VRep w t u.cs) (hV' : VRep w x v.cs) (hS : SmallT t) : Calls Tryz.prog 96 #[u.v, v.v] w fun e w' => e = .returned (.bool (eqT t x)) ∧ Below w.heap.size w w' := jeq_any t x u.cs v.cs w hV hV' hS
set_option maxHeartbeats 1000000 in
set_option maxRecDepth 100000 in
theorem enum_1 (y x : Tr) (v u : V5) (w : World) (g : Nat) (hg : w.heap[g]? = some (u.obj 25)) (hVy : VRep w y v.cs) (hSy : SmallT y) (hV : VRep w x u.cs) :
    Calls Tryz.prog 95 #[v.v, .pointer (some ⟨g, 0, none⟩)] w fun e w' => e = .returned (.bool (eqT y x)) ∧ Below w.heap.size w w' := by
  have hb := hid_of ((Below.refl _ w).alloc (Nat.le_refl _) (v.obj 25))
  have hcall := hid_of (jeq_v5 y x v u _ (VRep.keep hb.out _ _ hVy) (VRep.keep hb.out _ _ hV) hSy)
  obtain ⟨x0, x1, x2, x3, x4, -⟩ := row_cells (heap_alloc_new w (v.obj 25))
  obtain ⟨g0, g1, g2, g3, g4, -⟩ := row_cells ((hb.out.block _ (Array.getElem?_eq_some_iff.1 hg).1).trans hg)
  obtain ⟨z, hz⟩ : ∃ z, Hid (eqT y x = z) := ⟨_, rfl⟩
  rw [hz.out] at hcall ⊢
  unfold V5.obj at *
  unfold V5.v at *
  clear hV hVy hg
  go_enter Tryz.func95, Tryz.ntmps95
  go_wp2_with fail
  refine hcall.out.mono ?_
  rintro e W ⟨rfl, hb2⟩
  have hB2 := hid_of (hb.out.trans (hb2.mono hb.out.size))
  clear hcall hb2 x0 x1 x2 x3 x4 g0 g1 g2 g3 g4
  go_wp2_with fail
  go_ret
  exact ⟨ret_bool rfl, hB2.out⟩
set_option maxHeartbeats 2000000 in
set_option maxRecDepth 100000 in
theorem enum_index (L : List Tr) (x : Tr) (u : V5) (ai : Option Addr) (ci : Nat) (w : World) (g : Nat) (hg : Hid (w.heap[g]? = some (u.obj 25))) (hI : Hid (RowT w ai L)) (hS : Hid (SmallL L)) (hV : Hid (VRep w x u.cs)) (hl : L.length ≤ 1759218604390) :
    Calls Tryz.prog 97 #[.slice ai L.length ci, .func (.func 95) #[] #[.pointer (some ⟨g, 0, none⟩)]] w fun e w' => ∃ z : Int, e = .returned (.int .i64 z) ∧ decide (0 ≤ z) = L.any (fun y => eqT y x) ∧ Below w.heap.size w w' := by
  obtain ⟨R, hRR⟩ : ∃ R, Hid (L.any (fun y => eqT y x) = R) := ⟨_, rfl⟩
  simp only [hRR.out]
  have h0 : Hid ((L.drop 0).any (fun y => eqT y x) = R) := hRR
  go_enter Tryz.func97, Tryz.ntmps97
  go_wp2_with fail
  go_loopw [8] (fun i wr => ∃ q : Nat, q ≤ L.length ∧ i = .int .i64 q ∧ Hid (Below w.heap.size w wr) ∧ Hid ((L.drop q).any (fun y => eqT y x) = R)) (fun i _ => L.length - (intOf i).toNat)
  case atStart => exact ⟨0, Nat.zero_le _, rfl, Below.refl _ _, h0⟩
  case round =>
    obtain ⟨q, hq, rfl, hBr, hM⟩ := hrel
    have hqb : (q : Int) ≤ 1759218604390 := by omega
    by_cases hlt : q < L.length
    · obtain ⟨y, hy⟩ : ∃ y, Hid (L[q]? = some y) := ⟨_, hid_e (List.getElem?_eq_getElem hlt)⟩
      obtain ⟨gi, oi, hai, hgi, hVL⟩ := hI.out.resolve_left (by intro e; subst e; simp at hlt)
      obtain ⟨cs, hCs, hr⟩ := VRepL.at L oi q y hVL hy.out
      obtain ⟨v, rfl⟩ := vrep_v5 hr
      have hcall := hid_of (enum_1 y x v u wr g ((hBr.out.block _ (Array.getElem?_eq_some_iff.1 hg.out).1).trans hg.out) (VRep.keep hBr.out _ _ hr) (SmallL.at hS.out hy.out) (VRep.keep hBr.out _ _ hV.out))
      unfold V5.cs five at hCs
      have z0 := stay hBr.out (hCs 0 _ rfl)
      have z1 := stay hBr.out (hCs 1 _ rfl)
      have z2 := stay hBr.out (hCs 2 _ rfl)
      have z3 := stay hBr.out (hCs 3 _ rfl)
      have z4 := stay hBr.out (hCs 4 _ rfl)
      simp only [Nat.add_zero] at z0
      have hst := hid_of (any_at (f := fun y => eqT y x) hy.out)
      obtain ⟨kn, hkn⟩ : ∃ k, Hid (eqT y x = k) := ⟨_, rfl⟩
      simp only [hkn.out] at hst hcall
      have hi : (q : Int) < (L.length : Int) := by omega
      unfold V5.v at hcall
      rw [hai]
      clear hVL hCs hr hgi hai
      go_wp2_with fail
      refine hcall.out.mono ?_
      rintro e W ⟨rfl, hb2⟩
      have hB2 := hid_of (hBr.out.trans (hb2.mono hBr.out.size))
      clear hcall hb2 z0 z1 z2 z3 z4
      cases kn with
      | false =>
        have hM2 : Hid ((L.drop (q + 1)).any (fun y => eqT y x) = R) := by rw [Hid, ← hM.out, hst.out]; simp
        go_wp2_with fail
        go_roundw
        case rel => exact ⟨q + 1, by omega, by go_num, hB2, hM2⟩
        case measure => simp [intOf]; omega
      | true =>
        have hM2 : Hid (R = true) := by rw [Hid, ← hM.out, hst.out]; simp
        go_wp2_with fail
        go_ret
        exact ⟨(q : Int), rfl, by rw [hM2.out]; simp, hB2.out⟩
    · have e : L.drop q = [] := List.drop_eq_nil_of_le (by omega)
      have hi : ¬ (q : Int) < (L.length : Int) := by omega
      have hM2 : Hid (R = false) := by rw [Hid, ← hM.out, e]; rfl
      clear hlt e
      go_wp2_with fail
      go_ret
      exact ⟨-1, rfl, by rw [hM2.out]; decide, hBr.out⟩
set_option maxHeartbeats 1000000 in
set_option maxRecDepth 100000 in
theorem enum_contains (f : Value) (ai : Option Addr) (l ci : Nat) (R : Bool) (w : World) (hI : Hid (Calls Tryz.prog 97 #[.slice ai l ci, f] w fun e w' => ∃ z : Int, e = .returned (.int .i64 z) ∧ decide (0 ≤ z) = R ∧ Below w.heap.size w w')) :
    Calls Tryz.prog 94 #[.slice ai l ci, f] w fun e w' => e = .returned (.bool R) ∧ Below w.heap.size w w' := by
  go_enter Tryz.func94, Tryz.ntmps94
  go_wp2_with fail
  refine hI.out.mono ?_
  rintro e W ⟨z, rfl, hz, hb⟩
  replace hz := hid_of hz; replace hb := hid_of hb
  go_wp2_with fail
  go_ret
  exact ⟨ret_bool hz.out, hb.out⟩
set_option maxHeartbeats 1000000 in
set_option maxRecDepth 100000 in
theorem enum_keeps (L : List Tr) (x : Tr) (u : V5) (w : World) (a : Option Addr) (c : Nat) (hI : RowT w a L) (hS : SmallL L) (hV : VRep w x u.cs) (hl : L.length ≤ 1759218604390) :
    Calls Tryz.prog 93 #[.slice a L.length c, u.v] w fun e w' => e = .returned (.bool (L.any (fun y => eqT y x))) ∧ Below w.heap.size w w' := by
  have hb := hid_of ((Below.refl _ w).alloc (Nat.le_refl _) (u.obj 25))
  have hix := enum_index L x u a c _ w.heap.size (hid_of (heap_alloc_new w (u.obj 25))) (hid_of (hI.keep hb.out)) (hid_of hS) (hid_of (VRep.keep hb.out _ _ hV)) hl
  have hcn := hid_of (enum_contains _ a L.length c _ _ (hid_of hix))
  obtain ⟨R, hRR⟩ : ∃ R, Hid (L.any (fun y => eqT y x) = R) := ⟨_, rfl⟩
  rw [hRR.out] at hcn ⊢
  unfold V5.obj at *
  unfold V5.v at *
  clear hix hI hS hV
  go_enter Tryz.func93, Tryz.ntmps93
  go_wp2_with fail
  refine hcn.out.mono ?_
  rintro e W ⟨rfl, hb2⟩
  have hB2 := hid_of (hb.out.trans (hb2.mono hb.out.size))
  clear hcn hb2
  go_wp2_with fail
  go_ret
  exact ⟨ret_bool rfl, hB2.out⟩
end Go.Proofs.YtbcfkajcmbckbaaGreatDoor
/-! schema: the members that have a property. -/
namespace Go.Proofs.YtbcfkajcmbckbaaGreatDoor
open Go Go.RowKit

/-- The matches among the first n members: the property's number, the member's. -/
def matchesT (ns ms : List ByteArray) (n : Nat) : List (Nat × Nat) := (List.range n).filterMap fun i => (noOf ns (ms.getD i noS)).map fun q => (q, i)
theorem matches_next {ns ms : List ByteArray} {n : Nat} {s : ByteArray} (h : ms[n]? = some s) : matchesT ns ms (n + 1) = matchesT ns ms n ++ ((noOf ns s).map fun q => (q, n)).toList := by
  unfold matchesT
  rw [List.range_succ, List.filterMap_append]
  cases hn : noOf ns s <;> simp [List.filterMap, h, hn]
/-- Their cells. -/
def flatM (l : List (Nat × Nat)) : List Value := l.flatMap fun p => [.int .i64 (p.1 : Int), .int .i64 (p.2 : Int)]
theorem matches_le (ns ms : List ByteArray) (n : Nat) : (matchesT ns ms n).length ≤ n := by
  unfold matchesT
  exact Nat.le_trans (List.length_filterMap_le _ _) (by simp)
/-- The matches so far, in memory. -/
structure NamedSt (w : World) (ns ms : List ByteArray) (q : Nat) (a : Option Addr) (k c : Nat) (wr : World) : Prop where
  below : Below w.heap.size w wr
  len : k = (matchesT ns ms q).length
  row : Rw wr w.heap.size 2 a k c (flatM (matchesT ns ms q))
  off : ∀ b o, a = some ⟨b, o, none⟩ → o = 0
theorem NamedSt.hit {w wr w2 : World} {ns ms : List ByteArray} {q p k c g o c2 : Nat} {s : ByteArray} {a : Option Addr} {o1 : Obj} (h : NamedSt w ns ms q a k c wr) (hs : ms[q]? = some s) (hp : noOf ns s = some p)
    (hA : Appd (wr.alloc o1) w.heap.size 2 a k 1 c (flatM (matchesT ns ms q) ++ [.int .i64 (p : Int), .int .i64 (q : Int)]) g o c2 w2) : NamedSt w ns ms (q + 1) (some ⟨g, o, none⟩) (k + 1) c2 w2 := by
  have e := matches_next (ns := ns) hs
  rw [hp] at e
  have hB := h.below.alloc h.below.size o1
  refine ⟨?_, ?_, ?_, ?_⟩
  · refine hB.trans (hA.fr.below hB.size fun i hi => ?_)
    obtain ⟨⟨o', s', e'⟩, h2⟩ := hi
    rcases h.row.pt with h0 | ⟨b, o2, e2, h3, -⟩
    · omega
    · rw [e'] at e2; cases e2; exact h3
  · rw [e, List.length_append, ← h.len]; rfl
  · rw [e]
    unfold flatM
    rw [List.flatMap_append]
    exact hA.row
  · intro b o' e'
    cases e'
    rcases hA.at' with ⟨h0, -⟩ | ⟨-, h0, -⟩
    · exact h.off _ _ h0
    · exact h0
theorem NamedSt.miss {w wr : World} {ns ms : List ByteArray} {q k c : Nat} {s : ByteArray} {a : Option Addr} (h : NamedSt w ns ms q a k c wr) (hs : ms[q]? = some s) (hp : noOf ns s = none) : NamedSt w ns ms (q + 1) a k c wr := by
  have e := matches_next (ns := ns) hs
  rw [hp] at e
  have e2 : matchesT ns ms (q + 1) = matchesT ns ms q := by rw [e]; simp
  exact ⟨h.below, by rw [e2]; exact h.len, by rw [e2]; exact h.row, h.off⟩
set_option maxHeartbeats 4000000 in
set_option maxRecDepth 100000 in
theorem named_any (mb : Nat) (pa : Option Addr) (pl pc : Nat) (ns : List ByteArray) (x : Tr) (u : V5) (w : World) (hN : NumsAt w mb ns.length (numsD ns)) (hV : VRep w x u.cs) (hS : SmallT x) (hk6 : u.k = 6) :
    Calls Tryz.prog 104 #[.agg #[.map (some mb), .slice pa pl pc], u.v] w fun e w' => ∃ a k c, e = .returned (.slice a k c) ∧ NamedSt w ns (mbrsT x) (mbrsT x).length a k c w' := by
  obtain ⟨ri, hri, hri1, hri2, hri3⟩ := info_parts AM
  have hb0 := (Below.refl _ w).alloc (Nat.le_refl _) (.cells #[.map (some mb), .slice pa pl pc] 112)
  have hb := hid_of (hb0.alloc hb0.size (u.obj 25))
  obtain ⟨x0, x1, x2, x3, x4, -⟩ := row_cells (heap_alloc_new (w.alloc (.cells #[.map (some mb), .slice pa pl pc] 112)) (u.obj 25))
  have n0 := new1 w (.cells #[.map (some mb), .slice pa pl pc] 112) (u.obj 25)
  have a0 := (cell_of n0 0).trans rfl
  obtain ⟨hnam, hnl⟩ := rep_names hV
  obtain ⟨-, hli⟩ := rep_row hV
  obtain ⟨hcn, hci⟩ := rep_caps hV
  have hsm := hid_of (small_parts hS)
  rw [World.size_alloc] at x0 x1 x2 x3 x4
  have hmem := fun W => hid_of (members_any u W hcn hci)
  have hlen : Hid ((mbrsT x).length = min u.ln u.li) := by
    rw [Hid]; unfold mbrsT; rw [List.length_take]; omega
  have e6 : (u.k != 6) = false := by simp [hk6]
  replace hnam := hid_of hnam
  replace hnl := hid_of hnl; replace hli := hid_of hli; replace hcn := hid_of hcn; replace hci := hid_of hci
  unfold V5.obj at *
  unfold V5.v at *
  clear hV hS n0 hk6
  go_enter Tryz.func104, Tryz.ntmps104
  go_wp2_with fail
  generalize (w.alloc (.cells #[.map (some mb), .slice pa pl pc] 112)).alloc (.cells #[.int .i64 u.k, .int .i64 u.x, .string u.s, .slice u.an u.ln u.cn, .slice u.ai u.li u.ci] 25) = X at *
  refine (hmem _).out.mono ?_
  rintro e W ⟨c, rfl, hc, hbW⟩
  have hBW := hid_of (hb.out.trans (hbW.mono hb.out.size))
  have y0 := stay hbW a0
  have hlt0 : Hid (w.heap.size < W.heap.size) := lt_of_cell y0
  replace y0 := hid_of y0
  clear x0 x1 x2 x3 x4 a0 hmem hbW hc
  go_wp2_with fail
  go_loopw [5, 16] (fun l i wr => ∃ (q k : Nat) (a : Option Addr) (c : Nat), q ≤ (mbrsT x).length ∧ i = .int .i64 q ∧ l = .slice a k c ∧ Hid (NamedSt W ns (mbrsT x) q a k c wr)) (fun _ i _ => (mbrsT x).length - (intOf i).toNat)
  case atStart => exact ⟨0, 0, none, 0, Nat.zero_le _, rfl, rfl, ⟨Below.refl _ _, rfl, Rw.nil _ _ _ _, fun _ _ e => by cases e⟩⟩
  case round =>
    obtain ⟨q, k, a, c', hq, rfl, rfl, hL⟩ := hrel
    have hqb : (q : Int) ≤ 1759218604390 := by have h1 := hlen.out; have h2 := hli.out; have h3 := hsm.out.1; omega
    have hBr := hid_of (hBW.out.trans (hL.out.below.mono hBW.out.size))
    have yr := stay hL.out.below y0.out
    by_cases hlt : q < (mbrsT x).length
    · obtain ⟨s, hs⟩ : ∃ s, Hid ((mbrsT x)[q]? = some s) := ⟨_, hid_e (List.getElem?_eq_getElem hlt)⟩
      have hs2 : x.names[q]? = some s := by
        have h1 := hs.out
        unfold mbrsT at h1
        rw [List.getElem?_take] at h1
        split at h1
        · exact h1
        · cases h1
      obtain ⟨an', cn', e2, hc, h0⟩ := (hnam.out.keep hBr.out)
      simp only [Value.slice.injEq] at e2
      obtain ⟨e3, -, e4⟩ := e2
      obtain ⟨gn, on, e5, hgn, hA⟩ := h0.resolve_left (by intro e; rw [e] at hs2; simp at hs2)
      rw [← e3] at e5
      have nm0 : wr.cell? ⟨gn, on + q, none⟩ = some (.string s) := hA q s hs2
      obtain ⟨z, hlk, hzq⟩ := look_nums (hN.keep (hBr.out.block _ hN.lt)) s (hsm.out.2.2.1 s (List.mem_of_getElem? hs2))
      have hi : (q : Int) < ((min u.ln u.li : Nat) : Int) := by have := hlen.out; omega
      rw [e5]
      clear h0 hA hs2 e3 e4 e5 hgn hc
      cases hno : noOf ns s with
      | none =>
        rw [hno] at hlk
        have hnext := hid_of (hL.out.miss hs.out hno)
        replace hno := hid_of hno
        clear hzq
        go_wp2_with fail
        go_roundw
        case rel => exact ⟨q + 1, k, a, c', by omega, by go_num, rfl, hnext⟩
        case measure => simp [intOf]; omega
      | some p =>
        rw [hno] at hlk
        have hz := hzq p hno
        subst hz
        have hsrc := hid_of (Src.of_block (P := Tryz.prog) (size := 2) Tryz.underlying167 (heap_alloc_new wr (.cells #[.int .i64 (p : Int), .int .i64 (q : Int)] 170)) 1 1 rfl (by intro u hu; simp at hu; rcases hu with rfl | rfl <;> rfl))
        have hnext := fun g o c2 w2 hA => hid_of (NamedSt.hit (g := g) (o := o) (c2 := c2) (w2 := w2) (o1 := .cells #[.int .i64 (p : Int), .int .i64 (q : Int)] 170) hL.out hs.out hno hA)
        have hRw : Hid (Rw (wr.alloc (.cells #[.int .i64 (p : Int), .int .i64 (q : Int)] 170)) W.heap.size 2 a k c' (flatM (matchesT ns (mbrsT x) q))) := hL.out.row.below ((Below.refl _ _).alloc (Nat.le_refl _) _)
        have hbase : Hid (W.heap.size ≤ (wr.alloc (.cells #[.int .i64 (p : Int), .int .i64 (q : Int)] 170)).heap.size) := by
          have h1 := hL.out.below.size; show _ ≤ _; rw [World.size_alloc]; omega
        have hkq : Hid ((k + 1) ≤ maxLen ∧ (k + 1) * 16 ≤ 140737488355328) := by
          have h1 := hL.out.len; have h2 := matches_le ns (mbrsT x) q; refine ⟨?_, ?_⟩; unfold maxLen; omega; omega
        replace hno := hid_of hno
        clear hzq
        go_wp2_with (at_builtin; refine wpList_append_rw _ rfl _ _ 167 rfl 170 ri _ 2 16 Tryz.underlying167 hri hri1 hri2 hri3 rfl W.heap.size a k c' (flatM (matchesT ns (mbrsT x) q)) rfl hRw.out.len hRw.out.le hRw.out.mx hRw.out.rd _ rfl 1 _ hsrc.out (fun _ => hRw.out) (by decide) hkq.out.1 hkq.out.2 hbase.out ?_; intro g2 o2 c2 W3 hA; replace hnext := hnext g2 o2 c2 W3 hA)
        go_roundw
        case rel => exact ⟨q + 1, k + 1, some ⟨g2, o2, none⟩, c2, by omega, by go_num, rfl, hnext⟩
        case measure => simp [intOf]; omega
    · have hi : ¬ (q : Int) < ((min u.ln u.li : Nat) : Int) := by have := hlen.out; omega
      have hql : Hid (q = (mbrsT x).length) := by show q = _; omega
      have hfin : Hid (NamedSt w ns (mbrsT x) (mbrsT x).length a k c' wr) := by
        have h1 := hL.out
        rw [hql.out] at h1
        refine ⟨hBr.out, h1.len, ?_, h1.off⟩
        have hr := h1.row
        rcases hr.pt with h0 | ⟨b, o, e, h2, h3, h4, h5⟩
        · exact ⟨hr.len, hr.le, hr.mx, .inl h0⟩
        · exact ⟨hr.len, hr.le, hr.mx, .inr ⟨b, o, e, by have := hBW.out.size; omega, h3, h4, h5⟩⟩
      clear hlt
      go_wp2_with fail
      go_ret
      exact ⟨a, k, c', rfl, hfin.out⟩
end Go.Proofs.YtbcfkajcmbckbaaGreatDoor
/-! schema: properties. -/
namespace Go.Proofs.YtbcfkajcmbckbaaGreatDoor
open Go Go.RowKit

theorem noOf_lt {ns : List ByteArray} {s : ByteArray} {p : Nat} (h : noOf ns s = some p) : p < ns.length := by
  suffices g : ∀ n, n ≤ ns.length → ∀ p, noOf (ns.take n) s = some p → p < n by
    have := g ns.length (Nat.le_refl _) p
    rw [List.take_length] at this
    exact this h
  intro n
  induction n with
  | zero => intro _ p h; rw [List.take_zero] at h; simp [noOf] at h
  | succ n ih =>
    intro hn p h
    obtain ⟨a, ha⟩ : ∃ a, ns[n]? = some a := ⟨_, List.getElem?_eq_getElem (by omega)⟩
    have hl : (ns.take n).length = n := by rw [List.length_take]; omega
    rw [List.take_add_one, ha, Option.toList_some, noOf_snoc, hl] at h
    split at h
    · cases h; omega
    · have := ih (by omega) p h; omega
theorem matches_at {ns ms : List ByteArray} {n q : Nat} {p : Nat × Nat} (h : (matchesT ns ms n)[q]? = some p) : p.1 < ns.length ∧ p.2 < n := by
  have hm := List.mem_of_getElem? h
  unfold matchesT at hm
  obtain ⟨i, hi, he⟩ := List.mem_filterMap.1 hm
  obtain ⟨a, ha, rfl⟩ := Option.map_eq_some_iff.1 he
  exact ⟨noOf_lt ha, List.mem_range.1 hi⟩
theorem flatM_at : {M : List (Nat × Nat)} → {q : Nat} → {p : Nat × Nat} → M[q]? = some p → (flatM M)[q * 2]? = some (.int .i64 (p.1 : Int)) ∧ (flatM M)[q * 2 + 1]? = some (.int .i64 (p.2 : Int))
  | [], _, _, h => by simp at h
  | m :: M, 0, p, h => by
    have : m = p := by simpa using h
    subst this
    exact ⟨rfl, rfl⟩
  | m :: M, q + 1, p, h => by
    obtain ⟨h1, h2⟩ := flatM_at (M := M) (q := q) (by simpa using h)
    have e : flatM (m :: M) = .int .i64 (m.1 : Int) :: .int .i64 (m.2 : Int) :: flatM M := rfl
    rw [e, show (q + 1) * 2 = q * 2 + 1 + 1 by omega, show q * 2 + 1 + 1 + 1 = (q * 2 + 1) + 1 + 1 by omega]
    exact ⟨h1, h2⟩
/-- Does the member at a match keep its schema? -/
noncomputable def matchK (its : List Tr) (x : Tr) (p : Nat × Nat) : Bool := keepsT (its.getD p.1 zeroT) (x.items.getD p.2 zeroT)
theorem all_at' {l : List (Nat × Nat)} {f : Nat × Nat → Bool} {q : Nat} {p : Nat × Nat} (h : l[q]? = some p) : (l.drop q).all f = (f p && (l.drop (q + 1)).all f) := by
  have hlt := (List.getElem?_eq_some_iff.1 h).1
  rw [List.drop_eq_getElem_cons hlt, (List.getElem?_eq_some_iff.1 h).2, List.all_cons]
set_option maxHeartbeats 8000000 in
set_option maxRecDepth 100000 in
theorem properties_obj (w0 : World) (mb : Nat) (a : Option Addr) (c : Nat) (ns : List ByteArray) (its : List Tr) (hO : Hid (∀ t ∈ its, KeepsOk w0 t)) (x : Tr) (u : V5) (w : World) (S : Nat → Prop) (hN : NumsAt w mb ns.length (numsD ns)) (hnn : Hid (ns.length = its.length)) (hR : Hid (RowS w0 w S a its)) (hB : Hid (Below w0.heap.size w0 w)) (hV : VRep w x u.cs) (hS : SmallT x) (hk6 : u.k = 6) :
    Calls Tryz.prog 102 #[.agg #[.map (some mb), .slice a its.length c], u.v] w fun e w' => e = .returned (.bool ((matchesT ns (mbrsT x) (mbrsT x).length).all (matchK its x))) ∧ Below w.heap.size w w' := by
  have hb0 := (Below.refl _ w).alloc (Nat.le_refl _) (.cells #[.map (some mb), .slice a its.length c] 112)
  have hb := hid_of (hb0.alloc hb0.size (u.obj 25))
  obtain ⟨x0, x1, x2, x3, x4, -⟩ := row_cells (heap_alloc_new (w.alloc (.cells #[.map (some mb), .slice a its.length c] 112)) (u.obj 25))
  have n0 := new1 w (.cells #[.map (some mb), .slice a its.length c] 112) (u.obj 25)
  have a0 := (cell_of n0 0).trans rfl
  have a1 := (cell_of n0 1).trans rfl
  rw [World.size_alloc] at x0 x1 x2 x3 x4
  have hnm := hid_of (named_any mb a its.length c ns x u _ (hN.keep (hb.out.block _ hN.lt)) (VRep.keep hb.out _ _ hV) hS hk6)
  obtain ⟨hrow, hli⟩ := rep_row hV
  have hsm := hid_of (small_parts hS)
  have hml : Hid ((mbrsT x).length ≤ x.items.length) := by rw [Hid]; unfold mbrsT; rw [List.length_take]; omega
  obtain ⟨R, hRR⟩ : ∃ R, Hid ((matchesT ns (mbrsT x) (mbrsT x).length).all (matchK its x) = R) := ⟨_, rfl⟩
  rw [hRR.out]
  obtain ⟨M, hM⟩ : ∃ M, Hid (matchesT ns (mbrsT x) (mbrsT x).length = M) := ⟨_, rfl⟩
  have h0 : Hid ((M.drop 0).all (matchK its x) = R) := by rw [Hid, ← hM.out]; exact hRR.out
  replace hrow := hid_of hrow; replace hli := hid_of hli
  unfold V5.obj at *
  unfold V5.v at *
  clear hV hS n0 hk6 hN
  go_enter Tryz.func102, Tryz.ntmps102
  go_wp2_with fail
  generalize (w.alloc (.cells #[.map (some mb), .slice a its.length c] 112)).alloc (.cells #[.int .i64 u.k, .int .i64 u.x, .string u.s, .slice u.an u.ln u.cn, .slice u.ai u.li u.ci] 25) = X at *
  refine hnm.out.mono ?_
  rintro e W ⟨am, k, cm, rfl, hL⟩
  have hbW := hL.below
  have hBW := hid_of (hb.out.trans (hbW.mono hb.out.size))
  have hkl : Hid (k = M.length) := by rw [Hid, ← hM.out]; exact hL.len
  have hkb : Hid (k ≤ 1759218604390) := by
    have h1 := hL.len; have h2 := matches_le ns (mbrsT x) (mbrsT x).length; have h3 := hml.out; have h4 := hsm.out.1; show k ≤ _; omega
  have hRw : Hid (Rw W X.heap.size 2 am k cm (flatM M)) := by rw [← hM.out]; exact hL.row
  have y1 := hid_of (stay hbW a1); have y4 := hid_of (stay hbW x4)
  clear x0 x1 x2 x3 x4 a0 a1 hnm hbW hL
  go_wp2_with fail
  go_loopw [11] (fun i wr => ∃ q : Nat, q ≤ k ∧ i = .int .i64 q ∧ Hid (Below W.heap.size W wr) ∧ Hid ((M.drop q).all (matchK its x) = R)) (fun i _ => k - (intOf i).toNat)
  case atStart => exact ⟨0, Nat.zero_le _, rfl, Below.refl _ _, h0⟩
  case round =>
    obtain ⟨q, hq, rfl, hBr, hMq⟩ := hrel
    have hqb : (q : Int) ≤ 1759218604390 := by have := hkb.out; omega
    by_cases hlt : q < k
    · obtain ⟨p, hp⟩ : ∃ p, Hid (M[q]? = some p) := ⟨_, hid_e (List.getElem?_eq_getElem (by have := hkl.out; omega))⟩
      have hp' := hp.out
      rw [← hM.out] at hp'
      obtain ⟨hp1, hp2⟩ := matches_at hp'
      obtain ⟨f1, f2⟩ := flatM_at hp.out
      obtain ⟨bm, om, em, -, m0⟩ := hRw.out.cell f1
      obtain ⟨bm', om', em', -, m1⟩ := hRw.out.cell f2
      rw [em] at em'; cases em'
      have hmr0 := stay hBr.out m0
      have hmr1 := stay hBr.out m1
      rw [show om + (q * 2 + 1) = om + q * 2 + 1 by omega] at hmr1
      obtain ⟨p1, p2⟩ := p
      simp only at hp1 hp2 hmr0 hmr1
      have hp1i : p1 < its.length := by have := hnn.out; omega
      have hp2i : p2 < x.items.length := by have := hml.out; omega
      obtain ⟨t, ht⟩ : ∃ t, Hid (its[p1]? = some t) := ⟨_, hid_e (List.getElem?_eq_getElem hp1i)⟩
      obtain ⟨y, hy⟩ : ∃ y, Hid (x.items[p2]? = some y) := ⟨_, hid_e (List.getElem?_eq_getElem hp2i)⟩
      have hmk : Hid (matchK its x (p1, p2) = keepsT t y) := by
        rw [Hid]; unfold matchK
        rw [List.getD_eq_getElem?_getD, List.getD_eq_getElem?_getD, ht.out, hy.out]; rfl
      have hst := hid_of (all_at' (f := matchK its x) hp.out)
      have hBY := hid_of ((hBW.out.trans (hBr.out.mono hBW.out.size)).alloc (by have h1 := hBW.out.size; have h2 := hBr.out.size; omega) (.cells #[.int .i64 (p1 : Int), .int .i64 (p2 : Int)] 170))
      have hBWY := hid_of (hBr.out.alloc hBr.out.size (.cells #[.int .i64 (p1 : Int), .int .i64 (p2 : Int)] 170))
      obtain ⟨bS, oS, hae, hbS, hSL⟩ := (hR.out.later hBY.out).resolve_left (by intro e; rw [e] at hp1i; simp at hp1i)
      obtain ⟨at', ct, s0, hrt⟩ := SchemasL.at hSL ht.out
      obtain ⟨gi, oi, hai, hgi, hVL⟩ := (hrow.out.keep hBY.out).resolve_left (by intro e; rw [e] at hp2i; simp at hp2i)
      obtain ⟨cs, hCs, hr⟩ := VRepL.at x.items oi p2 y hVL hy.out
      obtain ⟨v, rfl⟩ := vrep_v5 hr
      unfold V5.cs five at hCs
      have hi : (q : Int) < (k : Int) := by omega
      have hi1 : (p1 : Int) < (its.length : Int) := by omega
      have hi2 : (p2 : Int) < (u.li : Int) := by have := hli.out; omega
      have hcall := hid_of (hO.out t (List.mem_of_getElem? ht.out) y v (wr.alloc (.cells #[.int .i64 (p1 : Int), .int .i64 (p2 : Int)] 170)).drew at' ct S (hrt.later (((Fr.refl (fun _ => False) _).drew).below (Nat.le_refl _) (fun _ h => h.elim))) ((hB.out.trans (hBY.out.mono hB.out.size)).trans (((Fr.refl (fun _ => False) _).drew).below (Nat.le_trans hB.out.size hBY.out.size) (fun _ h => h.elim))) (VRep.keep (((Fr.refl (fun _ => False) _).drew).below (Nat.le_refl _) (fun _ h => h.elim)) _ _ hr) (SmallL.at hsm.out.2.2.2.1 hy.out))
      obtain ⟨kn, hkn⟩ : ∃ z, Hid (keepsT t y = z) := ⟨_, rfl⟩
      rw [hkn.out] at hcall hmk
      rw [hmk.out] at hst
      have n6 := heap_alloc_new wr (.cells #[.int .i64 (p1 : Int), .int .i64 (p2 : Int)] 170)
      have c60 : (wr.alloc (.cells #[.int .i64 (p1 : Int), .int .i64 (p2 : Int)] 170)).drew.cell? ⟨wr.heap.size, 0, none⟩ = some (.int .i64 (p1 : Int)) := cell_of n6 0
      have c61 : (wr.alloc (.cells #[.int .i64 (p1 : Int), .int .i64 (p2 : Int)] 170)).drew.cell? ⟨wr.heap.size, 1, none⟩ = some (.int .i64 (p2 : Int)) := cell_of n6 1
      have b1 : (wr.alloc (.cells #[.int .i64 (p1 : Int), .int .i64 (p2 : Int)] 170)).drew.cell? ⟨w.heap.size, 1, none⟩ = some (.slice a its.length c) := stay hBWY.out y1.out
      have b4 : (wr.alloc (.cells #[.int .i64 (p1 : Int), .int .i64 (p2 : Int)] 170)).drew.cell? ⟨w.heap.size + 1, 4, none⟩ = some (.slice u.ai u.li u.ci) := stay hBWY.out y4.out
      have s0' : (wr.alloc (.cells #[.int .i64 (p1 : Int), .int .i64 (p2 : Int)] 170)).drew.cell? ⟨bS, oS + p1, none⟩ = some (.slice at' t.items.length ct) := s0
      have z0 : (wr.alloc (.cells #[.int .i64 (p1 : Int), .int .i64 (p2 : Int)] 170)).drew.cell? ⟨gi, oi + p2 * 5 + 0, none⟩ = some (.int .i64 v.k) := hCs 0 _ rfl
      have z1 : (wr.alloc (.cells #[.int .i64 (p1 : Int), .int .i64 (p2 : Int)] 170)).drew.cell? ⟨gi, oi + p2 * 5 + 1, none⟩ = some (.int .i64 v.x) := hCs 1 _ rfl
      have z2 : (wr.alloc (.cells #[.int .i64 (p1 : Int), .int .i64 (p2 : Int)] 170)).drew.cell? ⟨gi, oi + p2 * 5 + 2, none⟩ = some (.string v.s) := hCs 2 _ rfl
      have z3 : (wr.alloc (.cells #[.int .i64 (p1 : Int), .int .i64 (p2 : Int)] 170)).drew.cell? ⟨gi, oi + p2 * 5 + 3, none⟩ = some (.slice v.an v.ln v.cn) := hCs 3 _ rfl
      have z4 : (wr.alloc (.cells #[.int .i64 (p1 : Int), .int .i64 (p2 : Int)] 170)).drew.cell? ⟨gi, oi + p2 * 5 + 4, none⟩ = some (.slice v.ai v.li v.ci) := hCs 4 _ rfl
      simp only [Nat.add_zero] at z0
      unfold V5.v at hcall
      rw [hae] at b1
      rw [hai] at b4
      rw [em]
      clear hSL hVL hCs hr hgi hrt s0 f1 f2 m0 m1 hp' n6 hp2 hp1 hbS
      replace hae := hid_of hae; replace hai := hid_of hai; replace em := hid_of em
      go_upto_region 4 with fail
      generalize wr.alloc (.cells #[.int .i64 (p1 : Int), .int .i64 (p2 : Int)] 170) = Y at *
      go_region_held3 (fun W => W.cell? ⟨wr.heap.size, 0, none⟩ = some (.int .i64 (p1 : Int)) ∧ W.cell? ⟨wr.heap.size, 1, none⟩ = some (.int .i64 (p2 : Int)) ∧ W.cell? ⟨w.heap.size, 1, none⟩ = some (.slice (some ⟨bS, oS, none⟩) its.length c) ∧ W.cell? ⟨w.heap.size + 1, 4, none⟩ = some (.slice (some ⟨gi, oi, none⟩) u.li u.ci) ∧ W.cell? ⟨bS, oS + p1, none⟩ = some (.slice at' t.items.length ct) ∧ W.cell? ⟨gi, oi + p2 * 5, none⟩ = some (.int .i64 v.k) ∧ W.cell? ⟨gi, oi + p2 * 5 + 1, none⟩ = some (.int .i64 v.x) ∧ W.cell? ⟨gi, oi + p2 * 5 + 2, none⟩ = some (.string v.s) ∧ W.cell? ⟨gi, oi + p2 * 5 + 3, none⟩ = some (.slice v.an v.ln v.cn) ∧ W.cell? ⟨gi, oi + p2 * 5 + 4, none⟩ = some (.slice v.ai v.li v.ci)) (go_keep) (first
        | (go_at_call 26; refine hcall.out.mono ?_; rintro e W1 ⟨rfl, hb9⟩; have c60' : W1.cell? ⟨wr.heap.size, 0, none⟩ = some (.int .i64 (p1 : Int)) := stay hb9 c60; have c61' : W1.cell? ⟨wr.heap.size, 1, none⟩ = some (.int .i64 (p2 : Int)) := stay hb9 c61; have b1' : W1.cell? ⟨w.heap.size, 1, none⟩ = some (.slice (some ⟨bS, oS, none⟩) its.length c) := stay hb9 b1; have b4' : W1.cell? ⟨w.heap.size + 1, 4, none⟩ = some (.slice (some ⟨gi, oi, none⟩) u.li u.ci) := stay hb9 b4; have s0'' : W1.cell? ⟨bS, oS + p1, none⟩ = some (.slice at' t.items.length ct) := stay hb9 s0'; have z0' : W1.cell? ⟨gi, oi + p2 * 5, none⟩ = some (.int .i64 v.k) := stay hb9 z0; have z1' : W1.cell? ⟨gi, oi + p2 * 5 + 1, none⟩ = some (.int .i64 v.x) := stay hb9 z1; have z2' : W1.cell? ⟨gi, oi + p2 * 5 + 2, none⟩ = some (.string v.s) := stay hb9 z2; have z3' : W1.cell? ⟨gi, oi + p2 * 5 + 3, none⟩ = some (.slice v.an v.ln v.cn) := stay hb9 z3; have z4' : W1.cell? ⟨gi, oi + p2 * 5 + 4, none⟩ = some (.slice v.ai v.li v.ci) := stay hb9 z4; replace hb9 := hid_of hb9; clear c60 c61 b1 b4 s0' z0 z1 z2 z3 z4))
      have hB9 : Hid (Below W.heap.size W W1) := by
        have h1 : Below W.heap.size W Y.drew := hBWY.out.trans (((Fr.refl (fun _ => False) Y).drew).below hBWY.out.size (fun _ h => h.elim))
        exact h1.trans (hb9.out.mono h1.size)
      clear c60' c61' b1' b4' s0'' z0' z1' z2' z3' z4' hcall
      cases kn with
      | true =>
        have hM2 : Hid ((M.drop (q + 1)).all (matchK its x) = R) := by rw [Hid, ← hMq.out, hst.out]; simp
        go_wp2_with fail
        go_roundw
        case rel => exact ⟨q + 1, by omega, by go_num, hB9, hM2⟩
        case measure => simp [intOf]; omega
      | false =>
        have hM2 : Hid (R = false) := by rw [Hid, ← hMq.out, hst.out]; simp
        go_wp2_with fail
        go_ret
        exact ⟨ret_bool hM2.out.symm, hBW.out.trans (hB9.out.mono hBW.out.size)⟩
    · have e : M.drop q = [] := List.drop_eq_nil_of_le (by have := hkl.out; omega)
      have hi : ¬ (q : Int) < (k : Int) := by omega
      have hM2 : Hid (R = true) := by rw [Hid, ← hMq.out, e]; rfl
      clear hlt e
      go_wp2_with fail
      go_ret
      exact ⟨ret_bool hM2.out.symm, hBW.out.trans (hBr.out.mono hBW.out.size)⟩
end Go.Proofs.YtbcfkajcmbckbaaGreatDoor
