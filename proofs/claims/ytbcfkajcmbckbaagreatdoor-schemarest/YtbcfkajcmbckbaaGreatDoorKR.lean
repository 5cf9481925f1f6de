import Derived.Test.YtbcfkajcmbckbaaGreatDoorKQ
import Derived.Test.YtbcfkajcmbckbaaGreatDoorKN
import Derived.Laws.OwnMore
/-! schema: what required keeps. -/
namespace Go.Proofs.YtbcfkajcmbckbaaGreatDoor
open Go Go.RowKit

theorem own_sized {w : World} {P : Program} {k : TypeId} {R : Value → Option (DataW Unit × List MemPlace)} {b n : Nat} {D : DataW Unit} (h : w.ownsMap P k R b n D) : w.ownsMap P k R b (Maps.size D) D := by
  obtain ⟨es, cl, h1, h2, h3, h4⟩ := h
  refine ⟨es, cl, h1, h2, ?_, h4⟩
  have h5 := congrArg Maps.size h4
  simp [Maps.size, length_sorted] at h5
  simp [Maps.size]
  omega
theorem bool_info : (Tryz.prog.info? 4).map (fun i => (i.zero, i.size, i.bytes)) = some (some (.bool false), 1, 1) := by kernel_rfl
theorem mk_bools (n : Nat) (hn : n ≤ 1759218604390) (w : World) : ∃ cs : Array Value, (Instr.makeSlice 165 (.int .i64 (n : Int)) (.int .i64 (n : Int))).run Tryz.prog w = .ok (.slice (some ⟨w.heap.size, 0, none⟩) n n) (w.alloc (.cells cs 4)) ∧ cs.size = n ∧ ∀ i, i < n → cs[i]? = some (.bool false) := by
  obtain ⟨i, hi, h0, h1, h2⟩ := info_parts bool_info
  have := run_make (P := Tryz.prog) w 165 4 i (.bool false) Tryz.underlying165 hi h0 .i64 .i64 n n (by omega) (Int.le_refl _) (by rw [h2]; omega) (by omega)
  simp only [Int.toNat_natCast] at this
  refine ⟨_, this, by rw [size_madeCells, h1, Nat.mul_one], fun j hj => ?_⟩
  have hj' : j < n * i.size := by rw [h1]; omega
  simp [madeCells, Value.cells, hj', Nat.mod_one]
/-- The flags: which of the names asked stand among those that were seen. -/
def FlagsAt (w : World) (fb : Nat) (U P : List ByteArray) : Prop := ∃ cs : Array Value, w.heap[fb]? = some (.cells cs 4 (0, 0)) ∧ cs.size = U.length ∧ ∀ (i : Nat) s, U[i]? = some s → cs[i]? = some (.bool (memB P s))
theorem FlagsAt.keep {w w' : World} {fb : Nat} {U P : List ByteArray} (h : FlagsAt w fb U P) (hb : Below w.heap.size w w') : FlagsAt w' fb U P := by
  obtain ⟨cs, h1, h2, h3⟩ := h
  exact ⟨cs, (hb.block _ (Array.getElem?_eq_some_iff.1 h1).1).trans h1, h2, h3⟩
theorem FlagsAt.at {w : World} {fb : Nat} {U P : List ByteArray} (h : FlagsAt w fb U P) {i : Nat} {s : ByteArray} (hi : U[i]? = some s) : w.cell? ⟨fb, i, none⟩ = some (.bool (memB P s)) ∧ w.frozen? ⟨fb, i, none⟩ = false := by
  obtain ⟨cs, h1, h2, h3⟩ := h
  exact ⟨by simp [World.cell?, h1, h3 i s hi], by simp [World.frozen?, h1]⟩
theorem FlagsAt.same {w : World} {fb : Nat} {U P : List ByteArray} {s : ByteArray} (h : FlagsAt w fb U P) (hs : memB U s = true → memB P s = true) : FlagsAt w fb U (P ++ [s]) := by
  obtain ⟨cs, h1, h2, h3⟩ := h
  refine ⟨cs, h1, h2, fun i a ha => ?_⟩
  rw [h3 i a ha, memB_snoc]
  by_cases e : s = a
  · subst e
    simp [hs (memB_iff.2 (List.mem_of_getElem? ha))]
  · simp [e]
theorem FlagsAt.set {w : World} {fb : Nat} {U P : List ByteArray} {i : Nat} {s : ByteArray} (h : FlagsAt w fb U P) (hn : U.Nodup) (hi : U[i]? = some s) : FlagsAt (w.setCell ⟨fb, i, none⟩ (.bool true)) fb U (P ++ [s]) := by
  obtain ⟨cs, h1, h2, h3⟩ := h
  refine ⟨cs.setIfInBounds i (.bool true), by simp [World.setCell, Array.getElem?_modify, h1], by simpa using h2, fun j a ha => ?_⟩
  rw [memB_snoc]
  by_cases e : i = j
  · subst e
    have : s = a := Option.some.inj (hi.symm.trans ha)
    subst this
    have hlt : i < cs.size := by rw [h2]; exact (List.getElem?_eq_some_iff.1 hi).1
    simp [hlt]
  · rw [Array.getElem?_setIfInBounds, if_neg e, h3 j a ha]
    have : ¬ s = a := fun x => by
      subst x
      exact e ((List.getElem?_inj (List.getElem?_eq_some_iff.1 hi).1 hn).1 (hi.trans ha.symm))
    simp [this]
theorem noOf_at (l : List ByteArray) (s : ByteArray) : ∀ i, noOf l s = some i → l[i]? = some s := by
  suffices h : ∀ n, n ≤ l.length → ∀ i, noOf (l.take n) s = some i → l[i]? = some s by
    have := h l.length (Nat.le_refl _)
    rwa [List.take_length] at this
  intro n
  induction n with
  | zero => intro _ i h; rw [List.take_zero] at h; cases h
  | succ n ih =>
    intro hn i h
    obtain ⟨a, ha⟩ : ∃ a, l[n]? = some a := ⟨_, List.getElem?_eq_getElem (by omega)⟩
    rw [List.take_add_one, ha, Option.toList_some, noOf_snoc] at h
    by_cases e : a = s
    · rw [if_pos e] at h
      have hi := (Option.some.inj h).symm
      rw [List.length_take, Nat.min_eq_left (by omega)] at hi
      rw [hi, ha, e]
    · rw [if_neg e] at h
      exact ih (by omega) i h
/-- A name looked up in the numbers. -/
theorem look_req {w : World} {mb : Nat} {l : List ByteArray} (h : NumsAt w mb l.length (numsD l)) (s : ByteArray) (hs : s.size ≤ 140737488351232) : ∃ z : Int, (Instr.lookup 106 (.map (some mb)) (.string s) true).run Tryz.prog w = .ok (.tuple #[.int .i64 z, .bool (noOf l s).isSome]) w ∧ ∀ q, noOf l s = some q → z = (q : Int) := by
  have hkey := key_big s hs
  obtain ⟨v, ps, hrun, hv⟩ := World.ownsMap.look_ok h law9 Tryz.underlying106 (Tryz.zeroValue3 w) (zd := .lit (.int .i64 0)) (zp := []) (plainElem_int Tryz.underlying3 (by decide)) hkey
  obtain ⟨h1, h2⟩ := nums_look l s
  rw [h1] at hrun
  cases hn : noOf l s with
  | none =>
    have hat : (numsD l).atKey (keyL s) (.lit (.int .i64 0)) = .lit (.int .i64 0) := Maps.atKey_of_not_has (by rw [h1, hn]; rfl) _
    rw [hat] at hv
    obtain ⟨a, rfl, -, -⟩ := plainElem_int_inv Tryz.underlying3 hv
    rw [hn] at hrun
    exact ⟨a, hrun, fun q h => by cases h⟩
  | some q =>
    rw [h2 _ q hn] at hv
    obtain ⟨a, rfl, ha, -⟩ := plainElem_int_inv Tryz.underlying3 hv
    simp only [Prod.mk.injEq, DataW.lit.injEq, Lit.int.injEq, true_and] at ha
    rw [hn] at hrun
    refine ⟨a, hrun, fun q' h => ?_⟩
    rw [← Option.some.inj h]
    exact ha.1.symm
set_option maxHeartbeats 8000000 in
set_option maxRecDepth 100000 in
theorem req_ok : ReqOk := by
  intro m L x u w hN hL hlen hV hS
  obtain ⟨e1, hnd, hsz, -⟩ := req_nums L
  have hall := req_all L (mbrsT x)
  rw [e1] at hN
  have hle := World.ownsMap.size_le hN
  have hN0 : NumsAt w m (Maps.size (numsD (udL L))) (numsD (udL L)) := own_sized hN
  rw [hsz] at hN0 hle
  obtain ⟨U, hU⟩ : ∃ U, Hid (udL L = U) := ⟨_, rfl⟩
  rw [hU.out] at hN0 hnd hall hsz hle
  have hUb : Hid (U.length ≤ 1759218604390) := Nat.le_trans hle hlen
  have hkd := (vrep_head hV).1
  obtain ⟨hnam, hnl⟩ := rep_names hV
  obtain ⟨-, hli⟩ := rep_row hV
  obtain ⟨hcn, hci⟩ := rep_caps hV
  have hsm := hid_of (small_parts hS)
  have hb := hid_of ((Below.refl _ w).alloc (Nat.le_refl _) (u.obj 25))
  obtain ⟨x0, x1, x2, x3, x4, -⟩ := row_cells (heap_alloc_new w (u.obj 25))
  have hmem := fun W => hid_of (members_any u W hcn hci)
  obtain ⟨R, hR⟩ : ∃ R, Hid ((!(x.kind == 6) || L.all (fun y => memB (mbrsT x) y.text)) = R) := ⟨_, rfl⟩
  rw [hR.out]
  replace hnam := hid_of hnam
  replace hkd := hid_of hkd; replace hnl := hid_of hnl; replace hli := hid_of hli; replace hcn := hid_of hcn; replace hci := hid_of hci; replace hnd := hid_of hnd; replace hall := hid_of hall
  have hMP : Hid ((mbrsT x).length = min u.ln u.li) := by
    have h1 := hnl.out; have h2 := hli.out
    rw [Hid]; unfold mbrsT; rw [List.length_take]; omega
  clear hN hL hlen hV hS e1 hU hle
  unfold V5.obj at *
  unfold V5.v at *
  go_enter Tryz.func100, Tryz.ntmps100
  by_cases h6 : u.k = 6
  · have e6 : (u.k != 6) = false := by simp [h6]
    have hR2 : Hid (U.all (memB (mbrsT x)) = R) := by rw [Hid, ← hR.out, hkd.out, h6, hall.out]; rfl
    clear h6 hall hkd hR
    obtain ⟨X, hX⟩ : ∃ X, Hid (w.alloc (.cells #[.int .i64 u.k, .int .i64 u.x, .string u.s, .slice u.an u.ln u.cn, .slice u.ai u.li u.ci] 25) = X) := ⟨_, rfl⟩
    rw [hX.out] at hb x0 x1 x2 x3 x4
    have hNX : NumsAt X m U.length (numsD U) := hN0.keep (hb.out.block _ hN0.lt)
    have hl1 : (Builtin.len_ #[106] 3 #[.map (some m)]).run Tryz.prog X.drew = .ok (.int .i64 (U.length : Int)) X.drew := by
      rw [← hsz]; exact World.ownsMap.len (w := X.drew) hNX Tryz.underlying106 _
    have hl2 : ∀ o, (Builtin.len_ #[106] 3 #[.map (some m)]).run Tryz.prog (X.alloc o).drew = .ok (.int .i64 (U.length : Int)) (X.alloc o).drew := fun o => by
      rw [← hsz]; exact World.ownsMap.len (w := (X.alloc o).drew) (World.ownsMap.alloc (w := X) hNX o) Tryz.underlying106 _
    obtain ⟨cs, hmk, hcs1, hcs2⟩ := mk_bools U.length hUb.out X.drew
    go_wp2_with (rw [hX.out])
    go_region
    have hB1 := hid_of (below_drew (hb.out.alloc hb.out.size (.cells cs 4)))
    have hF1 : Hid (FlagsAt (X.alloc (.cells cs 4)).drew X.heap.size U ((mbrsT x).take 0)) := ⟨cs, heap_alloc_new X _, hcs1, fun i s hi => by rw [hcs2 i (List.getElem?_eq_some_iff.1 hi).1, List.take_zero]; rfl⟩
    have hfb : Hid (w.heap.size ≤ X.heap.size) := hb.out.size
    replace x0 := cell_alloc' x0 (.cells cs 4); replace x1 := cell_alloc' x1 (.cells cs 4); replace x2 := cell_alloc' x2 (.cells cs 4); replace x3 := cell_alloc' x3 (.cells cs 4); replace x4 := cell_alloc' x4 (.cells cs 4)
    obtain ⟨W1, hW1⟩ : ∃ W1, Hid ((X.alloc (.cells cs 4)).drew = W1) := ⟨_, rfl⟩
    replace x0 : (X.alloc (.cells cs 4)).drew.cell? _ = _ := x0; replace x1 : (X.alloc (.cells cs 4)).drew.cell? _ = _ := x1; replace x2 : (X.alloc (.cells cs 4)).drew.cell? _ = _ := x2; replace x3 : (X.alloc (.cells cs 4)).drew.cell? _ = _ := x3; replace x4 : (X.alloc (.cells cs 4)).drew.cell? _ = _ := x4
    rw [hW1.out] at hB1 hF1 x0 x1 x2 x3 x4 ⊢
    obtain ⟨fb, hfbe⟩ : ∃ fb, Hid (X.heap.size = fb) := ⟨_, rfl⟩
    rw [hfbe.out] at hF1 hfb ⊢
    clear hl1 hl2 hmk hcs1 hcs2 hNX hb hX hW1 hfbe
    go_wp2_with fail
    refine (hmem _).out.mono ?_
    rintro e W ⟨c, rfl, hc, hbW⟩
    have hBW := hid_of (hB1.out.trans (hbW.mono hB1.out.size))
    have hFW := hid_of (hF1.out.keep hbW)
    have hg0 : Hid (U.length = gapN U ((mbrsT x).take 0)) := by
      rw [Hid, List.take_zero]; unfold gapN; rw [List.filter_eq_self.2 (fun a _ => by rfl)]
    clear x0 x1 x2 x3 x4 hmem hbW hB1 hF1 hc
    go_wp2_with fail
    go_loopw [6, 22] (fun ms i wr => ∃ q : Nat, q ≤ (mbrsT x).length ∧ i = .int .i64 q ∧ ms = .int .i64 (gapN U ((mbrsT x).take q) : Nat) ∧ Hid (FlagsAt wr fb U ((mbrsT x).take q)) ∧ Hid (Below w.heap.size w wr)) (fun _ i _ => (mbrsT x).length - (intOf i).toNat)
    case atStart => exact ⟨0, Nat.zero_le _, rfl, by rw [← hg0.out], hFW, hBW⟩
    case round =>
      clear hFW hBW hg0
      rename_i wr
      obtain ⟨q, hq, rfl, rfl, hF, hB⟩ := hrel
      have hqb : (q : Int) ≤ 1759218604390 := by have h1 := hMP.out; have h2 := hli.out; have h3 := hsm.out.1; omega
      have hgb : (gapN U ((mbrsT x).take q) : Int) ≤ 1759218604390 := by have h1 := gap_le U ((mbrsT x).take q); have h2 := hUb.out; omega
      by_cases hlt : q < (mbrsT x).length
      · obtain ⟨s, hs⟩ : ∃ s, Hid ((mbrsT x)[q]? = some s) := ⟨_, hid_e (List.getElem?_eq_getElem hlt)⟩
        have hs2 : x.names[q]? = some s := by
          have h1 := hs.out
          unfold mbrsT at h1
          rw [List.getElem?_take] at h1
          split at h1
          · exact h1
          · cases h1
        have htk : Hid ((mbrsT x).take (q + 1) = (mbrsT x).take q ++ [s]) := by rw [Hid, List.take_add_one, hs.out]; rfl
        obtain ⟨an', cn', e2, hc, h0⟩ := hnam.out.keep hB.out
        simp only [Value.slice.injEq] at e2
        obtain ⟨e3, -, e4⟩ := e2
        obtain ⟨gn, on, e5, hgn, hA⟩ := h0.resolve_left (by intro e; rw [e] at hs2; simp at hs2)
        rw [← e3] at e5
        have nm0 : wr.cell? ⟨gn, on + q, none⟩ = some (.string s) := hA q s hs2
        obtain ⟨z, hlk, hz⟩ := look_req (hN0.keep (hB.out.block _ hN0.lt)) s (hsm.out.2.2.1 s (List.mem_of_getElem? hs2))
        have hi : (q : Int) < ((min u.ln u.li : Nat) : Int) := by have := hMP.out; omega
        rw [e5]
        clear h0 hA hs2 e3 e4 e5 hgn hc
        cases hno : noOf U s with
        | none =>
          rw [hno] at hlk
          have hus : memB U s = true → memB ((mbrsT x).take q) s = true := fun h => by rw [← noOf_some, hno] at h; cases h
          have hF2 : Hid (FlagsAt wr fb U ((mbrsT x).take (q + 1))) := by rw [htk.out]; exact hF.out.same hus
          have hG2 : Hid (gapN U ((mbrsT x).take (q + 1)) = gapN U ((mbrsT x).take q)) := by rw [Hid, htk.out, gap_same hus]
          clear hno hus hz
          simp only [Option.isSome_none] at hlk
          go_wp2_with fail
          go_roundw
          case rel => exact ⟨q + 1, by omega, by go_num, by rw [hG2.out], hF2, hB⟩
          case measure => simp [intOf]; omega
        | some i =>
          obtain rfl := hz i hno
          rw [hno] at hlk
          have hat := noOf_at U s i hno
          have hilt : (i : Int) < (U.length : Int) := by have := (List.getElem?_eq_some_iff.1 hat).1; omega
          obtain ⟨f0, fz⟩ := hF.out.at hat
          simp only [Option.isSome_some] at hlk
          clear hz
          cases hk : memB ((mbrsT x).take q) s with
          | true =>
            rw [hk] at f0
            have hF2 : Hid (FlagsAt wr fb U ((mbrsT x).take (q + 1))) := by rw [htk.out]; exact hF.out.same (fun _ => hk)
            have hG2 : Hid (gapN U ((mbrsT x).take (q + 1)) = gapN U ((mbrsT x).take q)) := by rw [Hid, htk.out, gap_same (fun _ => hk)]
            clear hno hat hk
            go_wp2_with fail
            go_roundw
            case rel => exact ⟨q + 1, by omega, by go_num, by rw [hG2.out], hF2, hB⟩
            case measure => simp [intOf]; omega
          | false =>
            rw [hk] at f0
            have hus : memB U s = true := memB_iff.2 (List.mem_of_getElem? hat)
            have hF2 : Hid (FlagsAt (wr.setCell ⟨fb, i, none⟩ (.bool true)) fb U ((mbrsT x).take (q + 1))) := by rw [htk.out]; exact hF.out.set hnd.out hat
            have hG2 : Hid (gapN U ((mbrsT x).take (q + 1)) + 1 = gapN U ((mbrsT x).take q)) := by rw [Hid, htk.out]; exact gap_less hnd.out hus hk
            have hB2 : Hid (Below w.heap.size w (wr.setCell ⟨fb, i, none⟩ (.bool true))) := hB.out.setCell hfb.out _
            clear hno hat hk hus
            go_wp2_with fail
            go_roundw
            case rel => exact ⟨q + 1, by omega, by go_num, by have := hG2.out; go_num, hF2, hB2⟩
            case measure => simp [intOf]; omega
      · have e : (mbrsT x).take q = mbrsT x := List.take_of_length_le (by omega)
        have hi : ¬ (q : Int) < ((min u.ln u.li : Nat) : Int) := by have := hMP.out; omega
        have hfin : Hid ((((gapN U ((mbrsT x).take q) : Nat) : Int) == 0) = R) := by
          rw [Hid, e, ← hR2.out, ← gap_zero]
          rw [Bool.eq_iff_iff, beq_iff_eq, decide_eq_true_iff]
          omega
        clear hlt e
        go_wp2_with fail
        go_ret
        exact ⟨ret_bool hfin.out, hB.out⟩
  · have e6 : (u.k != 6) = true := by simp [h6]
    have hr : Hid (R = true) := by rw [Hid, ← hR.out, hkd.out]; simp [h6]
    rw [hr.out]
    clear h6 hall hkd hR hmem
    go_wp2_with fail
    go_ret
    exact ⟨ret_bool rfl, hb.out⟩
end Go.Proofs.YtbcfkajcmbckbaaGreatDoor
