import Derived.Test.YtbcfkajcmbckbaaGreatDoorSE
import Derived.Test.YtbcfkajcmbckbaaGreatDoorZB3
import Derived.Maps.OwnSet
/-! schema: names with their numbers, in a map; the maker of required. -/
namespace Go.Proofs.YtbcfkajcmbckbaaGreatDoor
open Go Go.RowKit

/-- Names with their numbers. -/
def numsD (l : List ByteArray) : DataW Unit := (l.foldl (fun (p : DataW Unit × Nat) s => (p.1.put (keyL s) (.lit (.int .i64 (p.2 : Int))), p.2 + 1)) (.map [], 0)).1
theorem numsD_two (l : List ByteArray) : (l.foldl (fun (p : DataW Unit × Nat) s => (p.1.put (keyL s) (.lit (.int .i64 (p.2 : Int))), p.2 + 1)) (.map [], 0)).2 = l.length := by
  have : ∀ (l : List ByteArray) (D : DataW Unit) (n : Nat), (l.foldl (fun (p : DataW Unit × Nat) s => (p.1.put (keyL s) (.lit (.int .i64 (p.2 : Int))), p.2 + 1)) (D, n)).2 = n + l.length := by
    intro l
    induction l with
    | nil => intro D n; rfl
    | cons a l ih => intro D n; rw [List.foldl_cons, ih]; simp; omega
  rw [this]; omega
theorem numsD_snoc (l : List ByteArray) (s : ByteArray) : numsD (l ++ [s]) = (numsD l).put (keyL s) (.lit (.int .i64 (l.length : Int))) := by
  unfold numsD
  rw [List.foldl_append, List.foldl_cons, List.foldl_nil, numsD_two]
/-- A map of numbers by names. -/
def NumsAt (w : World) (m n : Nat) (D : DataW Unit) : Prop := w.ownsMap Tryz.prog 9 (plainElem Tryz.prog 3) m n D
theorem NumsAt.keep {w w' : World} {m n : Nat} {D : DataW Unit} (h : NumsAt w m n D) (hb : w'.heap[m]? = w.heap[m]?) : NumsAt w' m n D := by
  obtain ⟨es, cl, hm, r⟩ := h
  exact ⟨es, cl, hb.trans hm, r⟩
theorem NumsAt.lt {w : World} {m n : Nat} {D : DataW Unit} (h : NumsAt w m n D) : m < w.heap.size := World.ownsMap.lt h
theorem int_elem (z : Int) (hz : (Lit.int .i64 z).wf = true) : plainElem (H := Unit) Tryz.prog 3 (.int .i64 z) = some (.lit (.int .i64 z), []) := plainElem_int Tryz.underlying3 hz
theorem wf_nat (q : Nat) (h : q ≤ 9000000000000000000) : (Lit.int .i64 (q : Int)).wf = true := by
  have e1 : IntKind.i64.min = -9223372036854775808 := by decide
  have e2 : IntKind.i64.max = 9223372036854775807 := by decide
  simp only [Lit.wf, e1, e2, Bool.and_eq_true, decide_eq_true_eq]
  omega
set_option maxHeartbeats 2000000 in
set_option maxRecDepth 100000 in
theorem numbered_any (an : Option Addr) (cn : Nat) (ns : List ByteArray) (w : World) (hN : Hid (Reads w (.slice an ns.length cn) ns)) (hz : Hid (∀ n ∈ ns, n.size ≤ 140737488351232)) (hl : ns.length ≤ 8796093021952) :
    Calls Tryz.prog 59 #[.slice an ns.length cn] w fun e w' => ∃ m, e = .returned (.map (some m)) ∧ w.heap.size ≤ m ∧ NumsAt w' m ns.length (numsD ns) ∧ Below w.heap.size w w' := by
  have hmm := @run_makeMap Tryz.prog
  have hM0 : NumsAt (w.alloc (.map #[] 0)) w.heap.size 0 (numsD []) := World.ownsMap_made w _ _ _
  have hB0 := hid_of ((Below.refl _ w).alloc (Nat.le_refl _) (.map #[] 0))
  replace hM0 := hid_of hM0
  obtain ⟨mb, hmb⟩ : ∃ b, Hid (w.heap.size = b) := ⟨_, hid_of rfl⟩
  go_enter Tryz.func59, Tryz.ntmps59
  go_wp2_with fail
  rw [hmb.out] at hM0 hB0 ⊢
  generalize hX : w.alloc (.map #[] 0) = X at hM0 hB0 ⊢
  clear hX hmm
  go_loopw [9] (fun i wr => ∃ q : Nat, q ≤ ns.length ∧ i = .int .i64 q ∧ Hid (NumsAt wr mb q (numsD (ns.take q))) ∧ Hid (Below mb w wr)) (fun i _ => ns.length - (intOf i).toNat)
  case atStart => exact ⟨0, Nat.zero_le _, rfl, hM0, hB0⟩
  case round =>
    obtain ⟨q, hq, rfl, hM, hB⟩ := hrel
    by_cases hlt : q < ns.length
    · obtain ⟨s, hs⟩ : ∃ s, Hid (ns[q]? = some s) := ⟨_, hid_e (List.getElem?_eq_getElem hlt)⟩
      obtain ⟨a, c, e, hc, h0⟩ := hN.out
      obtain ⟨b, o, e2, hb, hA⟩ := h0.resolve_left (by intro e; subst e; simp at hlt)
      simp only [Value.slice.injEq] at e
      obtain ⟨rfl, -, rfl⟩ := e
      subst e2
      have t0 : wr.cell? ⟨b, o + q, none⟩ = some (.string s) := ((hB.out.cell (p := ⟨b, o + q, none⟩) (by rw [← hmb.out]; exact hb)).trans (hA q s hs.out))
      have hkey := key_big s (hz.out s (List.mem_of_getElem? hs.out))
      have hval := int_elem (q : Int) (wf_nat q (by omega))
      have hown := hM.out
      unfold NumsAt at hown
      have hq2 : q < maxLen := by unfold maxLen; omega
      have hi : (q : Int) < (ns.length : Int) := by omega
      have hcn : ns.length ≤ cn := hc.1
      clear hA h0 hc
      go_wp2_with (at_mapUpdate; refine wpList_mapUpdate_own _ rfl _ _ _ 104 rfl 9 3 law9 Tryz.underlying104 (plainElem Tryz.prog 3) mb q _ rfl hown hq2 _ _ _ rfl rfl hkey _ [] hval ?_; intro w1 hown1 hgrow1)
      go_roundw
      case rel =>
        refine ⟨q + 1, by omega, by go_num, hid_of ?_, hid_of ?_⟩
        · rw [List.take_add_one, hs.out]
          show NumsAt w1 mb (q + 1) (numsD (ns.take q ++ [s]))
          rw [numsD_snoc, List.length_take, Nat.min_eq_left hq]
          exact hown1
        · exact grown_below hgrow1 (by have := hB.out.size; have := hmb.out; omega) (fun g e => by cases e; exact Nat.le_refl _) |> fun h => hB.out.trans h
      case measure => simp [intOf]; omega
    · have e : q = ns.length := by omega
      have hi : ¬ (q : Int) < (ns.length : Int) := by omega
      clear hlt
      go_wp2_with fail
      go_ret
      refine ⟨mb, rfl, Nat.le_of_eq hmb.out, ?_, hmb.out ▸ hB.out⟩
      have := hM.out
      rw [e, List.take_length] at this
      exact this
end Go.Proofs.YtbcfkajcmbckbaaGreatDoor
/-! schema: the maker of required. -/
namespace Go.Proofs.YtbcfkajcmbckbaaGreatDoor
open Go Go.RowKit

/-- What required may be given. -/
def reqZ (k : Int) (its : List Tr) : Int := if k = 5 ∧ its.all (fun t => t.kind == 4) = true then 0 else 210
theorem all_at {its : List Tr} {f : Tr → Bool} {q : Nat} {t : Tr} (h : its[q]? = some t) : (its.drop q).all f = (f t && (its.drop (q + 1)).all f) := by
  have hlt := (List.getElem?_eq_some_iff.1 h).1
  rw [List.drop_eq_getElem_cons hlt, (List.getElem?_eq_some_iff.1 h).2, List.all_cons]
/-- The names asked, each with its number: the first time that it is asked. -/
def reqD (l : List Tr) : DataW Unit := l.foldl (fun D t => if Maps.has D (keyL t.text) = true then D else D.put (keyL t.text) (.lit (.int .i64 (Maps.size D : Int)))) (.map [])
theorem reqD_next {l : List Tr} {q : Nat} {t : Tr} (h : l[q]? = some t) : reqD (l.take (q + 1)) = if Maps.has (reqD (l.take q)) (keyL t.text) = true then reqD (l.take q) else (reqD (l.take q)).put (keyL t.text) (.lit (.int .i64 (Maps.size (reqD (l.take q)) : Int))) := by
  unfold reqD
  rw [List.take_add_one, h, Option.toList_some, List.foldl_append, List.foldl_cons, List.foldl_nil]
/-- What required makes. -/
def ReqV (w : World) (lo : Nat) (l : List Tr) (v : Value) : Prop := ∃ m, v = .iface 106 (.map (some m)) ∧ lo ≤ m ∧ NumsAt w m l.length (reqD l)
set_option maxHeartbeats 4000000 in
set_option maxRecDepth 100000 in
theorem required_any (r : Value) (u b : V5) (d : Nat) (its : List Tr) (w : World) (hli : Hid (u.li = its.length)) (hI : Hid (ItemsAt' w u.ai its)) (hS : Hid (SmallL its)) (hl : its.length ≤ 8796093021952) :
    Calls Tryz.prog 33 #[r, givenV u b d] w fun e w' => ∃ v z, e = .returned (.tuple #[v, .int .i64 z]) ∧ z = reqZ u.k its ∧ Below w.heap.size w w' ∧ (z = 0 → ReqV w' w.heap.size its v) := by
  have hmm := @run_makeMap Tryz.prog
  have hB0 := (Below.refl _ w).alloc (Nat.le_refl _) (givenO u b d)
  have hB1 := hid_of (hB0.alloc hB0.size (.map #[] 0))
  have hM0 : NumsAt ((w.alloc (givenO u b d)).alloc (.map #[] 0)) (w.alloc (givenO u b d)).heap.size 0 (.map []) := World.ownsMap_made _ _ _ _
  obtain ⟨x0, x1, x2, x3, x4, -⟩ := givenO_cells (heap_alloc_new w (givenO u b d))
  have y4 := cell_alloc' x4 (.map #[] 0)
  rw [World.size_alloc] at hM0
  replace hM0 := hid_of hM0
  unfold givenO at *
  unfold givenV
  go_enter Tryz.func33, Tryz.ntmps33
  by_cases hk : u.k = 5
  · have hb1 : (u.k != 5) = false := by simp [hk]
    obtain ⟨z, hz⟩ : ∃ z, Hid (reqZ u.k its = z) := ⟨_, rfl⟩
    have hz2 : Hid ((if its.all (fun t => t.kind == 4) = true then 0 else 210) = z) := by
      rw [Hid, ← hz.out]; unfold reqZ; simp [hk]
    rw [hz.out]
    clear hk hz
    go_wp2_with fail
    obtain ⟨mb, hmb⟩ : ∃ m, Hid (w.heap.size + 1 = m) := ⟨_, hid_of rfl⟩
    rw [hmb.out] at hM0 ⊢
    generalize hX : (w.alloc (.cells #[.int .i64 u.k, .int .i64 u.x, .string u.s, .slice u.an u.ln u.cn, .slice u.ai u.li u.ci, .int .i64 b.k, .int .i64 b.x, .string b.s, .slice b.an b.ln b.cn, .slice b.ai b.li b.ci, .int .i64 (d : Int)] 88)).alloc (.map #[] 0) = X at y4 hM0 hB1 ⊢
    clear hX hmm hB0 x0 x1 x2 x3 x4 y4
    go_loopw [20] (fun i wr => ∃ q : Nat, q ≤ its.length ∧ i = .int .i64 q ∧ Hid (NumsAt wr mb q (reqD (its.take q))) ∧ Hid (Below w.heap.size w wr) ∧ Hid ((if (its.drop q).all (fun t => t.kind == 4) = true then 0 else 210) = z)) (fun i _ => its.length - (intOf i).toNat)
    case atStart => exact ⟨0, Nat.zero_le _, rfl, hM0.out, hB1, hz2⟩
    case round =>
      obtain ⟨q, hq, rfl, hM, hB, hZ⟩ := hrel
      by_cases hlt : q < its.length
      · obtain ⟨t, ht⟩ : ∃ t, Hid (its[q]? = some t) := ⟨_, hid_e (List.getElem?_eq_getElem hlt)⟩
        obtain ⟨g, o, hai, hg, hV⟩ := hI.out.resolve_left (by intro e; subst e; simp at hlt)
        obtain ⟨cs, hCs, hr⟩ := VRepL.at its o q t hV ht.out
        obtain ⟨v, rfl⟩ := vrep_v5 hr
        have hvk : t.kind = v.k ∧ t.text = v.s := by
          obtain ⟨k, x, s, ns, is⟩ := t
          unfold VRep V5.cs five at hr
          obtain ⟨nm, a, c, e, -⟩ := hr
          simp only [List.cons.injEq, Value.int.injEq, Value.string.injEq, true_and] at e
          exact ⟨e.1.symm, e.2.2.1.symm⟩
        unfold V5.cs five at hCs
        have z0 := stay hB.out (hCs 0 _ rfl)
        have z1 := stay hB.out (hCs 1 _ rfl)
        have z2 := stay hB.out (hCs 2 _ rfl)
        have z3 := stay hB.out (hCs 3 _ rfl)
        have z4 := stay hB.out (hCs 4 _ rfl)
        simp only [Nat.add_zero] at z0
        have hst := hid_of (all_at (f := fun t => t.kind == 4) ht.out)
        have hsm := hid_of (SmallL.at hS.out ht.out)
        have hbox := fun o => hid_of (hB.out.alloc hB.out.size o)
        have hi : (q : Int) < (u.li : Int) := by have := hli.out; omega
        rw [hai]
        clear hV hCs hr hg
        by_cases hk4 : v.k = 4
        · have hb4 : (v.k != 4) = false := by simp [hk4]
          have hZ2 : Hid ((if (its.drop (q + 1)).all (fun t => t.kind == 4) = true then 0 else 210) = z) := by
            rw [Hid, ← hZ.out, hst.out, hvk.1, hk4]; simp
          have hsv : Hid (v.s.size ≤ 140737488351232) := by
            have h1 := hsm.out
            have h2 := hvk.2
            obtain ⟨k, x, s, ns, is⟩ := t
            unfold SmallT at h1
            have h3 : s = v.s := h2
            rw [← h3]; exact h1.1
          have hnx := reqD_next ht.out
          rw [hvk.2] at hnx
          have hD := hM.out
          obtain ⟨D, hDD⟩ : ∃ D, Hid (reqD (its.take q) = D) := ⟨_, rfl⟩
          rw [hDD.out] at hD hnx
          replace hnx := hid_of hnx
          have hkey := key_big v.s hsv.out
          have hown : ∀ o, (wr.alloc o).ownsMap Tryz.prog 9 (plainElem Tryz.prog 3) mb q D := fun o => World.ownsMap.alloc hD o
          have hlen := fun o => World.ownsMap.len (hown o) Tryz.underlying104 3
          have hlk : ∀ o, ∃ y, (Instr.lookup 104 (.map (some mb)) (.string v.s) true).run Tryz.prog (wr.alloc o) = .ok (.tuple #[y, .bool (Maps.has D (keyL v.s))]) (wr.alloc o) := fun o => by
            obtain ⟨y, ps, hrun, -⟩ := World.ownsMap.look_ok (hown o) law9 Tryz.underlying104 (Tryz.zeroValue3 _) (zd := .lit (.int .i64 0)) (zp := []) (plainElem_int Tryz.underlying3 (by decide)) hkey
            exact ⟨y, hrun⟩
          have hsz : Maps.size D ≤ q := World.ownsMap.size_le hD
          have hval := int_elem (Maps.size D : Int) (wf_nat (Maps.size D) (by omega))
          have hq2 : Hid (q < maxLen) := by show q < maxLen; unfold maxLen; omega
          have hlk2 := hlk (.cells #[.int .i64 v.k, .int .i64 v.x, .string v.s, .slice v.an v.ln v.cn, .slice v.ai v.li v.ci] 25)
          obtain ⟨y, hy⟩ := hlk2
          obtain ⟨hb, hhb⟩ : ∃ c, Hid (Maps.has D (keyL v.s) = c) := ⟨_, rfl⟩
          rw [hhb.out] at hy
          rw [hhb.out] at hnx
          clear hk4 hvk hsm hst hZ hlk hsz hhb
          cases hb with
          | true =>
            go_wp2_with fail
            go_roundw
            case rel => exact ⟨q + 1, by omega, by go_num, (by rw [hnx.out, if_pos rfl]; exact World.ownsMap.mono (hown _) (by omega)), hbox _, hZ2⟩
            case measure => have := hli.out; simp [intOf]; omega
          | false =>
            go_wp2_with (at_mapUpdate; refine wpList_mapUpdate_own _ rfl _ _ _ 104 rfl 9 3 law9 Tryz.underlying104 (plainElem Tryz.prog 3) mb q _ rfl (hown _) hq2.out _ _ _ rfl rfl hkey _ [] hval ?_; intro w1 hown1 hgrow1)
            go_roundw
            case rel => exact ⟨q + 1, by omega, by go_num, (by rw [hnx.out, if_neg (by decide)]; exact hown1), hid_of ((hbox _).out.trans (grown_below hgrow1 (hbox _).out.size (fun g e => by cases e; have := hmb.out; omega))), hZ2⟩
            case measure => have := hli.out; simp [intOf]; omega
        · have hb4 : (v.k != 4) = true := by simp [hk4]
          have hZ2 : Hid (z = 210) := by
            rw [Hid, ← hZ.out, hst.out, hvk.1]; simp [hk4]
          clear hk4 hvk hsm hst hZ
          go_wp2_with fail
          go_ret2
          exact ⟨_, _, rfl, hZ2.out.symm, (hbox _).out, by first | (intro e; cases e; done) | exact fun _ => hreq.out⟩
      · have e : its.drop q = [] := List.drop_eq_nil_of_le (by omega)
        have hZ2 : Hid (z = 0) := by rw [Hid, ← hZ.out, e]; rfl
        have hi : ¬ (q : Int) < (u.li : Int) := by have := hli.out; omega
        have hreq : Hid (ReqV wr w.heap.size its (.iface 106 (.map (some mb)))) := by
          have h1 := hM.out
          have hql : q = its.length := by omega
          rw [hql, List.take_length] at h1
          exact ⟨mb, rfl, by have := hmb.out; omega, h1⟩
        clear hlt e
        go_wp2_with fail
        go_ret2
        exact ⟨_, _, rfl, hZ2.out.symm, hB.out, by first | (intro e; cases e; done) | exact fun _ => hreq.out⟩
  · have hb1 : (u.k != 5) = true := by simp [hk]
    have hk' : Hid (reqZ u.k its = 210) := by rw [Hid]; unfold reqZ; rw [if_neg (fun h => hk h.1)]
    rw [hk'.out]
    clear hk
    go_wp2_with fail
    go_ret2
    exact ⟨_, _, rfl, rfl, hB0, by first | (intro e; cases e; done) | exact fun _ => hreq.out⟩
end Go.Proofs.YtbcfkajcmbckbaaGreatDoor
/-! schema: the maker of type. -/
namespace Go.Proofs.YtbcfkajcmbckbaaGreatDoor
open Go Go.RowKit

/-- The table of the types' names. -/
def TysAt (w : World) : Prop := ∀ q, q < 7 → w.cell? ⟨0, q, none⟩ = some (.string (tyAt q))
theorem TysAt.keep {w w' : World} (h : TysAt w) (hk : w'.heap[0]? = w.heap[0]?) : TysAt w' := fun q hq =>
  (World.cell?_of_block (w := w) hk).trans (h q hq)
theorem tyAt_get {q : Nat} (h : q < 7) : tys[q]? = some (tyAt q) := by
  unfold tyAt
  rw [List.getD_eq_getElem?_getD, List.getElem?_eq_getElem (show q < tys.length from h)]
  rfl
def knownT (s : ByteArray) (q : Nat) : Bool := (tys.take q).any (fun t => decide (t = s))
theorem knownT_next {s : ByteArray} {q : Nat} (h : q < 7) : knownT s (q + 1) = (knownT s q || decide (tyAt q = s)) := by
  unfold knownT
  rw [List.take_add_one, tyAt_get h, List.any_append]
  simp
theorem bytes_ne {a b : ByteArray} (h : a ≠ b) : (a.toList == b.toList) = false := by
  rw [beq_eq_false_iff_ne]
  intro e
  rw [ByteArray.toList_eq, ByteArray.toList_eq] at e
  exact h (ByteArray.ext (Array.toList_inj.1 e))
theorem bytes_same (a : ByteArray) : (a.toList == a.toList) = true := by simp
/-- The types' seven cells. -/
def tcells (f : Nat → Bool) : Array Value := #[.bool (f 0), .bool (f 1), .bool (f 2), .bool (f 3), .bool (f 4), .bool (f 5), .bool (f 6)]
theorem tcells_size (f : Nat → Bool) : (tcells f).size = 7 := rfl
theorem tcells_congr {f g : Nat → Bool} (h : ∀ p, p < 7 → f p = g p) : tcells f = tcells g := by
  unfold tcells
  rw [h 0 (by decide), h 1 (by decide), h 2 (by decide), h 3 (by decide), h 4 (by decide), h 5 (by decide), h 6 (by decide)]
theorem tcells_set {f g : Nat → Bool} {q : Nat} (h1 : g q = true) (h2 : ∀ p, p < 7 → p ≠ q → g p = f p) : (tcells f).setIfInBounds q (.bool true) = tcells g := by
  apply Array.ext
  · simp [tcells]
  · intro i h3 h4
    have h7 : i < 7 := h4
    rw [Array.getElem_setIfInBounds]
    have e : ∀ (f : Nat → Bool) (h : i < (tcells f).size), (tcells f)[i] = .bool (f i) := fun f h => by
      rcases i with _ | _ | _ | _ | _ | _ | _ | i <;> first | rfl | omega
    rw [e g h4]
    by_cases h5 : q = i
    · rw [if_pos h5, ← h5, h1]
    · rw [if_neg h5, h2 i h7 (fun e => h5 e.symm)]
      exact e f h7
/-- The types found so far. -/
def upTo (f : Nat → Bool) (s : ByteArray) (q p : Nat) : Bool := f p || (decide (p < q) && decide (tyAt p = s))
set_option maxHeartbeats 4000000 in
set_option maxRecDepth 100000 in
theorem addTy_any (tb : Nat) (s : ByteArray) (f : Nat → Bool) (w : World) (hT : Hid (TysAt w)) (ht : Hid (tb ≠ 0)) (hX : Hid (w.heap[tb]? = some (.cells (tcells f) 102 (0, 0)))) :
    Calls Tryz.prog 56 #[.pointer (some ⟨tb, 0, none⟩), .string s] w fun e w' => e = .returned (.bool (tyName s)) ∧ Fr (fun b => b = tb) w w' ∧ w'.heap[tb]? = some (.cells (tcells fun p => f p || decide (tyAt p = s)) 102 (0, 0)) := by
  go_enter Tryz.func56, Tryz.ntmps56
  go_wp2_with fail
  go_loopw [5, 7] (fun k i wr => ∃ q : Nat, q ≤ 7 ∧ i = .int .i64 q ∧ k = .bool (knownT s q) ∧ Hid (Fr (fun b => b = tb) w wr) ∧ Hid (wr.heap[tb]? = some (.cells (tcells (upTo f s q)) 102 (0, 0)))) (fun k i _ => 7 - (intOf i).toNat)
  case atStart => exact ⟨0, by omega, rfl, rfl, Fr.refl _ _, (by rw [show tcells (upTo f s 0) = tcells f from tcells_congr fun p _ => by simp [upTo]]; exact hX.out)⟩
  case round =>
    obtain ⟨q, hq, rfl, rfl, hF, hC⟩ := hrel
    by_cases hlt : q < 7
    · have hi : (q : Int) < 7 := by omega
      have hnx := hid_of (knownT_next (s := s) hlt)
      have c0 := (World.cell?_of_block (w := w) (hF.out.block 0 (lt_of_cell (hT.out q hlt)) (fun e => ht.out e.symm))).trans (hT.out q hlt)
      have hX' := hC.out
      have f0 : wr.frozen? ⟨tb, q, none⟩ = false := by simp [World.frozen?, hX']
      have hqc : q < (tcells (upTo f s q)).size := hlt
      obtain ⟨uq, e0⟩ : ∃ u, wr.cell? ⟨tb, q, none⟩ = some u := ⟨(tcells (upTo f s q))[q], by simp [World.cell?, hX', hqc]⟩
      have hfin := hid_of (show (wr.setCell ⟨tb, q, none⟩ (.bool true)).heap[tb]? = some (.cells ((tcells (upTo f s q)).setIfInBounds q (.bool true)) 102 (0, 0)) by simp [World.setCell, Array.getElem?_modify, hX'])
      have hF2 := hid_of (hF.out.set ⟨tb, q, none⟩ (.bool true) (.inl rfl))
      have hC2 := hC
      clear hX' hqc hC
      by_cases heq : tyAt q = s
      · have hb := bytes_same s
        have hk : Hid (knownT s (q + 1) = true) := by rw [Hid, hnx.out, heq]; simp
        replace hfin : Hid ((wr.setCell ⟨tb, q, none⟩ (.bool true)).heap[tb]? = some (.cells (tcells (upTo f s (q + 1))) 102 (0, 0))) := by
          rw [Hid, hfin.out, tcells_set (g := upTo f s (q + 1)) (by simp [upTo, heq]) (fun p _ hne => by simp only [upTo]; rw [show decide (p < q + 1) = decide (p < q) from decide_eq_decide.2 (by omega)])]
        rw [heq] at c0
        clear hnx heq
        go_wp2_with fail
        go_roundw
        case rel => exact ⟨q + 1, by omega, by go_num, by rw [hk.out], hF2, hfin⟩
        case measure => simp [intOf]; omega
      · have hb := bytes_ne heq
        have hk : Hid (knownT s (q + 1) = knownT s q) := by rw [Hid, hnx.out, decide_eq_false heq]; simp
        replace hC2 : Hid (wr.heap[tb]? = some (.cells (tcells (upTo f s (q + 1))) 102 (0, 0))) := by
          rw [Hid, hC2.out, tcells_congr (f := upTo f s q) (g := upTo f s (q + 1)) (fun p _ => by
            simp only [upTo]
            by_cases hp : p = q
            · subst hp; simp [heq]
            · rw [show decide (p < q + 1) = decide (p < q) from decide_eq_decide.2 (by omega)])]
        clear hnx heq
        rw [← hk.out]
        go_wp2_with fail
        go_roundw
        case rel => exact ⟨q + 1, by omega, by go_num, rfl, hF, hC2⟩
        case measure => simp [intOf]; omega
    · have e : q = 7 := by omega
      have hi : ¬ (q : Int) < 7 := by omega
      have hk : Hid (knownT s q = tyName s) := by rw [e]; rfl
      have hq7 : Hid (q = 7) := e
      rw [hk.out]
      clear hlt e
      go_wp2_with fail
      go_ret
      refine ⟨rfl, hF.out, ?_⟩
      rw [hC.out, tcells_congr (f := upTo f s q) (g := fun p => f p || decide (tyAt p = s)) (fun p hp => by simp only [upTo]; rw [decide_eq_true (by have := hq7.out; omega : p < q), Bool.true_and])]
end Go.Proofs.YtbcfkajcmbckbaaGreatDoor
/-! schema: the maker of type: its loop. -/
namespace Go.Proofs.YtbcfkajcmbckbaaGreatDoor
open Go Go.RowKit

def typeZ (k : Int) (s : ByteArray) (its : List Tr) : Int := if typeOk k s its = true then 0 else 210
/-- A row of values. -/
def RowT (w : World) (a : Option Addr) (l : List Tr) : Prop := l = [] ∨ ∃ b o, a = some ⟨b, o, none⟩ ∧ b < w.heap.size ∧ VRepL w b o l
theorem RowT.keep {w w' : World} {a : Option Addr} {l : List Tr} (h : RowT w a l) (hb : Below w.heap.size w w') : RowT w' a l := by
  rcases h with h | ⟨b, o, h1, h2, h3⟩
  · exact .inl h
  · exact .inr ⟨b, o, h1, Nat.lt_of_lt_of_le h2 hb.size, VRepL.keep hb h2 o l h3⟩
theorem heap_new' {w : World} {n : Nat} {o : Obj} (h : n = w.heap.size) : (w.alloc o).heap[n]? = some o := by rw [h]; exact heap_alloc_new w o
theorem vrep_head {w : World} {t : Tr} {v : V5} (h : VRep w t v.cs) : t.kind = v.k ∧ t.text = v.s := by
  obtain ⟨k, x, s, ns, is⟩ := t
  unfold VRep V5.cs five at h
  obtain ⟨nm, a, c, e, -⟩ := h
  simp only [List.cons.injEq, Value.int.injEq, Value.string.injEq, true_and] at e
  exact ⟨e.1.symm, e.2.2.1.symm⟩
theorem row_one {w : World} {t : Tr} {v : V5} (h : VRep w t v.cs) {g : Nat} {ty : TypeId} (hg : w.heap[g]? = some (.cells #[.int .i64 v.k, .int .i64 v.x, .string v.s, .slice v.an v.ln v.cn, .slice v.ai v.li v.ci] ty (0, 0))) : RowT w (some ⟨g, 0, none⟩) [t] := by
  refine .inr ⟨g, 0, rfl, (Array.getElem?_eq_some_iff.1 hg).1, ?_⟩
  unfold VRepL
  refine ⟨v.cs, fun j u hj => ?_, h, by unfold VRepL; trivial⟩
  have := cell_of hg (0 + j)
  rw [this, Nat.zero_add]
  unfold V5.cs five at hj
  simpa using hj
theorem seven_cells {w : World} {g : Nat} {c0 c1 c2 c3 c4 c5 c6 : Value} {t : TypeId} (h : w.heap[g]? = some (.cells #[c0, c1, c2, c3, c4, c5, c6] t (0, 0))) : w.cell? ⟨g, 0, none⟩ = some c0 ∧ w.cell? ⟨g, 1, none⟩ = some c1 ∧ w.cell? ⟨g, 2, none⟩ = some c2 ∧ w.cell? ⟨g, 3, none⟩ = some c3 ∧ w.cell? ⟨g, 4, none⟩ = some c4 ∧ w.cell? ⟨g, 5, none⟩ = some c5 ∧ w.cell? ⟨g, 6, none⟩ = some c6 := by
  refine ⟨?_, ?_, ?_, ?_, ?_, ?_, ?_⟩
  all_goals simp [World.cell?, h]
/-- The kinds that have one of the names. -/
def tyF (l : List Tr) (p : Nat) : Bool := l.any fun t => decide (tyAt p = t.text)
theorem tyF_snoc {L : List Tr} {q : Nat} {t : Tr} {s : ByteArray} (h : L[q]? = some t) (hs : t.text = s) : (fun p => tyF (L.take q) p || decide (tyAt p = s)) = tyF (L.take (q + 1)) := by
  funext p
  unfold tyF
  rw [List.take_add_one, h]
  simp [hs]
/-- The texts that type is given. -/
def tyL (t : Tr) : List Tr := if t.kind = 5 then t.items else [t]
/-- What type makes. -/
def TypesV (l : List Tr) (v : Value) : Prop := v = .iface 102 (.agg (tcells (tyF l)))
def TypePost (w : World) (z : Int) (P : World → Value → Prop) (e : Ending) (w' : World) : Prop := ∃ v z', e = .returned (.tuple #[v, .int .i64 z']) ∧ z' = z ∧ Below w.heap.size w w' ∧ (z' = 0 → P w' v)
set_option maxHeartbeats 8000000 in
set_option maxRecDepth 100000 in
theorem types_any (r : Value) (u b : V5) (d : Nat) (t : Tr) (w : World) (hV0 : VRep w t u.cs) (hT : Hid (TysAt w)) (hl : t.items.length ≤ 8796093021952) :
    Calls Tryz.prog 31 #[r, givenV u b d] w (TypePost w (typeZ u.k u.s t.items) (fun _ v => TypesV (tyL t) v)) := by
  have hT0 : Hid (0 < w.heap.size) := lt_of_cell (hT.out 0 (by decide))
  have hB0 := (Below.refl _ w).alloc (Nat.le_refl _) (givenO u b d)
  have hVO := (hB0.alloc hB0.size (.cells #[.int .i64 u.k, .int .i64 u.x, .string u.s, .slice u.an u.ln u.cn, .slice u.ai u.li u.ci] 25))
  have hn0 := heap_alloc_new w (givenO u b d)
  obtain ⟨x0, x1, x2, x3, x4, -⟩ := givenO_cells hn0
  obtain ⟨z, hz⟩ : ∃ z, Hid (typeZ u.k u.s t.items = z) := ⟨_, rfl⟩
  rw [hz.out]
  have hrow1 := row_one (VRep.keep hVO _ _ hV0) (heap_alloc_new (w.alloc (givenO u b d)) (.cells #[.int .i64 u.k, .int .i64 u.x, .string u.s, .slice u.an u.ln u.cn, .slice u.ai u.li u.ci] 25))
  rw [World.size_alloc] at hrow1
  replace hrow1 := hid_of hrow1
  have hrow2 : Hid (u.li = t.items.length ∧ RowT w u.ai t.items) := by
    obtain ⟨k, x, s, ns, is⟩ := t
    unfold VRep V5.cs five at hV0
    obtain ⟨nm, a, c, e, h2, h3, h4⟩ := hV0
    simp only [List.cons.injEq, Value.slice.injEq, and_true] at e
    obtain ⟨-, -, -, -, e1, e2, -⟩ := e
    rw [e1]
    exact ⟨e2, h4⟩
  have hhd := hid_of (vrep_head hV0)
  replace hVO := hid_of hVO
  clear hn0 hV0
  unfold givenO at *
  unfold givenV
  obtain ⟨tb, htb⟩ : ∃ n, Hid (w.heap.size + 1 + 1 = n) := ⟨_, rfl⟩
  go_enter Tryz.func31, Tryz.ntmps31
  by_cases hk : u.k = 5
  · have hb1 : (u.k == 5) = true := by simp [hk]
    obtain ⟨L, hL⟩ : ∃ L, Hid (t.items = L) := ⟨_, rfl⟩
    have hzL : Hid ((if L ≠ [] ∧ (L.drop 0).all isTy = true then 0 else 210) = z) := by
      rw [Hid, ← hz.out, ← hL.out]; unfold typeZ typeOk; rw [if_pos hk]; simp [Bool.and_eq_true]
    have hPL : Hid (tyL t = L) := by rw [Hid, ← hL.out]; unfold tyL; rw [if_pos (hhd.out.1.trans hk)]
    rw [hL.out] at hrow2 hl
    clear hk hz hL
    go_wp2_with fail
    rw [htb.out]
    have hCX : Hid ((((w.alloc (.cells #[.int .i64 u.k, .int .i64 u.x, .string u.s, .slice u.an u.ln u.cn, .slice u.ai u.li u.ci, .int .i64 b.k, .int .i64 b.x, .string b.s, .slice b.an b.ln b.cn, .slice b.ai b.li b.ci, .int .i64 (d : Int)] 88)).alloc (.cells #[.int .i64 u.k, .int .i64 u.x, .string u.s, .slice u.an u.ln u.cn, .slice u.ai u.li u.ci] 25)).alloc (.cells #[.bool false, .bool false, .bool false, .bool false, .bool false, .bool false, .bool false] 102)).heap[tb]? = some (.cells (tcells (tyF (L.take 0))) 102 (0, 0))) := heap_new' (by rw [← htb.out]; simp)
    have hBX := hid_of (hVO.out.alloc hVO.out.size (.cells #[.bool false, .bool false, .bool false, .bool false, .bool false, .bool false, .bool false] 102))
    have hRow := hid_of (RowT.keep hrow2.out.2 hBX.out)
    have hlen : Hid ((u.li : Int) = (L.length : Int)) := by have := hrow2.out.1; show (u.li : Int) = _; omega
    have htb3 : Hid ((((w.alloc (.cells #[.int .i64 u.k, .int .i64 u.x, .string u.s, .slice u.an u.ln u.cn, .slice u.ai u.li u.ci, .int .i64 b.k, .int .i64 b.x, .string b.s, .slice b.an b.ln b.cn, .slice b.ai b.li b.ci, .int .i64 (d : Int)] 88)).alloc (.cells #[.int .i64 u.k, .int .i64 u.x, .string u.s, .slice u.an u.ln u.cn, .slice u.ai u.li u.ci] 25)).alloc (.cells #[.bool false, .bool false, .bool false, .bool false, .bool false, .bool false, .bool false] 102)).heap.size = tb + 1) := by rw [Hid, ← htb.out]; simp
    have hrowlt : Hid (L ≠ [] → ∀ b o, u.ai = some ⟨b, o, none⟩ → b < tb) := by
      intro hne b o e
      rcases hrow2.out.2 with h | ⟨b2, o2, e2, h2, -⟩
      · exact absurd h hne
      · rw [e2] at e; cases e; have := htb.out; omega
    generalize hX : ((w.alloc (.cells #[.int .i64 u.k, .int .i64 u.x, .string u.s, .slice u.an u.ln u.cn, .slice u.ai u.li u.ci, .int .i64 b.k, .int .i64 b.x, .string b.s, .slice b.an b.ln b.cn, .slice b.ai b.li b.ci, .int .i64 (d : Int)] 88)).alloc (.cells #[.int .i64 u.k, .int .i64 u.x, .string u.s, .slice u.an u.ln u.cn, .slice u.ai u.li u.ci] 25)).alloc (.cells #[.bool false, .bool false, .bool false, .bool false, .bool false, .bool false, .bool false] 102) = X at hCX hBX hRow htb3 ⊢
    have htb2 : Hid (w.heap.size ≤ tb) := by have := htb.out; show w.heap.size ≤ tb; omega
    clear hB0 x0 x1 x2 x3 x4 hrow1 hVO
    clear hX
    go_loopw [22] (fun i wr => ∃ q : Nat, q ≤ L.length ∧ i = .int .i64 q ∧ Hid (Below w.heap.size w wr) ∧ Hid (Below tb X wr) ∧ Hid (wr.heap[tb]? = some (.cells (tcells (tyF (L.take q))) 102 (0, 0))) ∧ Hid ((if L ≠ [] ∧ (L.drop q).all isTy = true then 0 else 210) = z)) (fun i _ => L.length - (intOf i).toNat)
    case atStart => exact ⟨0, Nat.zero_le _, rfl, hBX, hid_of (Below.refl _ _), hCX, hzL⟩
    case round =>
      obtain ⟨q, hq, rfl, hB, hBt, hC, hZ⟩ := hrel
      by_cases hlt : q < L.length
      · obtain ⟨t', ht'⟩ : ∃ s', Hid (L[q]? = some s') := ⟨_, hid_e (List.getElem?_eq_getElem hlt)⟩
        have hpos : Hid (L ≠ []) := by intro e; rw [e] at hlt; simp at hlt
        obtain ⟨g, o, hai, hg, hV⟩ := hRow.out.resolve_left (by intro e; rw [e] at hlt; simp at hlt)
        obtain ⟨cs, hCs, hr⟩ := VRepL.at L o q t' hV ht'.out
        obtain ⟨v, rfl⟩ := vrep_v5 hr
        have hvk := vrep_head hr
        unfold V5.cs five at hCs
        have hgt : g < tb := hrowlt.out hpos.out g o hai
        have z0 := (hBt.out.cell (p := ⟨g, o + q * 5 + 0, none⟩) hgt).trans (hCs 0 _ rfl)
        have z1 := (hBt.out.cell (p := ⟨g, o + q * 5 + 1, none⟩) hgt).trans (hCs 1 _ rfl)
        have z2 := (hBt.out.cell (p := ⟨g, o + q * 5 + 2, none⟩) hgt).trans (hCs 2 _ rfl)
        have z3 := (hBt.out.cell (p := ⟨g, o + q * 5 + 3, none⟩) hgt).trans (hCs 3 _ rfl)
        have z4 := (hBt.out.cell (p := ⟨g, o + q * 5 + 4, none⟩) hgt).trans (hCs 4 _ rfl)
        simp only [Nat.add_zero] at z0
        have hst := hid_of (all_at (f := isTy) ht'.out)
        have hbox := fun o => hid_of (hB.out.alloc hB.out.size o)
        have hbox2 := fun o => hid_of (hBt.out.alloc (by have := hBt.out.size; have := htb3.out; omega) o)
        have hi : (q : Int) < (u.li : Int) := by have := hlen.out; omega
        rw [hai]
        clear hV hCs hr hg
        by_cases hk4 : v.k = 4
        · have hb4 : (v.k != 4) = false := by simp [hk4]
          have hX' := hC.out
          have hvs := hid_of hvk.2
          have hTy := hid_of (hT.out.keep (hB.out.block _ hT0.out))
          have hadd := fun o => hid_of (addTy_any tb v.s (tyF (L.take q)) (wr.alloc o) (hid_of (hTy.out.keep (Below.heap_alloc _ _ _ (Nat.lt_of_lt_of_le hT0.out hB.out.size)))) (hid_of (by have := hT0.out; have := htb2.out; omega)) (hid_of ((Below.heap_alloc _ _ _ (Array.getElem?_eq_some_iff.1 hX').1).trans hX')))
          have hsT : Hid (isTy t' = tyName v.s) := by rw [Hid]; unfold isTy; rw [hvk.1, hvk.2, hk4]; simp
          clear hk4 hvk hX' hTy
          obtain ⟨kn, hkn⟩ : ∃ c, Hid (tyName v.s = c) := ⟨_, rfl⟩
          rw [hkn.out] at hadd hsT
          go_wp2_with fail
          refine (hadd _).out.mono ?_
          rintro e W1 ⟨rfl, hF1, hX1⟩
          rw [tyF_snoc ht'.out hvs.out] at hX1
          have hB1 := hid_of ((hbox (.cells #[.int .i64 v.k, .int .i64 v.x, .string v.s, .slice v.an v.ln v.cn, .slice v.ai v.li v.ci] 25)).out.trans (hF1.below (by have := (hbox (.cells #[.int .i64 v.k, .int .i64 v.x, .string v.s, .slice v.an v.ln v.cn, .slice v.ai v.li v.ci] 25)).out.size; exact this) (fun i e => by subst e; exact htb2.out)))
          have hB2 := hid_of ((hbox2 (.cells #[.int .i64 v.k, .int .i64 v.x, .string v.s, .slice v.an v.ln v.cn, .slice v.ai v.li v.ci] 25)).out.trans (hF1.below (by have := (hbox2 (.cells #[.int .i64 v.k, .int .i64 v.x, .string v.s, .slice v.an v.ln v.cn, .slice v.ai v.li v.ci] 25)).out.size; have := htb3.out; omega) (fun i e => by subst e; exact Nat.le_refl _)))
          replace hX1 := hid_of hX1
          clear hadd hF1 hbox hbox2 hC
          cases kn with
          | true =>
            have hZ2 : Hid ((if L ≠ [] ∧ (L.drop (q + 1)).all isTy = true then 0 else 210) = z) := by
              rw [Hid, ← hZ.out, hst.out, hsT.out, Bool.true_and]
            go_wp2_with fail
            go_roundw
            case rel => exact ⟨q + 1, by omega, by go_num, hB1, hB2, hX1, hZ2⟩
            case measure => have := hlen.out; simp [intOf]; omega
          | false =>
            have hZ2 : Hid (z = 210) := by
              rw [Hid, ← hZ.out, hst.out, hsT.out]; simp
            go_wp2_with fail
            go_ret2
            exact ⟨_, _, rfl, hZ2.out.symm, hB1.out, by first | (intro e; cases e; done) | exact fun _ => show TypesV (tyL t) _ by rw [hPL.out]; exact rfl⟩
        · have hb4 : (v.k != 4) = true := by simp [hk4]
          have hZ2 : Hid (z = 210) := by
            have : isTy t' = false := by unfold isTy; rw [hvk.1]; simp [hk4]
            rw [Hid, ← hZ.out, hst.out, this]; simp
          clear hk4 hvk hst hZ
          go_wp2_with fail
          go_ret2
          exact ⟨_, _, rfl, hZ2.out.symm, (hbox _).out, by first | (intro e; cases e; done) | exact fun _ => show TypesV (tyL t) _ by rw [hPL.out]; exact rfl⟩
      · have e : L.drop q = [] := List.drop_eq_nil_of_le (by omega)
        have hZ2 : Hid ((if L ≠ [] then 0 else 210) = z) := by rw [Hid, ← hZ.out, e]; simp
        have hi : ¬ (q : Int) < (u.li : Int) := by have := hlen.out; omega
        have hX' := hC.out
        rw [List.take_of_length_le (by omega)] at hX'
        obtain ⟨e0, e1, e2, e3, e4, e5, e6⟩ := seven_cells (show wr.heap[tb]? = some (.cells #[.bool (tyF L 0), .bool (tyF L 1), .bool (tyF L 2), .bool (tyF L 3), .bool (tyF L 4), .bool (tyF L 5), .bool (tyF L 6)] 102 (0, 0)) from hX')
        clear hlt e hX' hC
        by_cases h0 : L = []
        · have hb0 : ((u.li : Int) == 0) = true := by have := hlen.out; rw [h0] at this; simp at this ⊢; omega
          have hZ3 : Hid (z = 210) := by rw [Hid, ← hZ2.out, if_neg (fun h => h h0)]
          clear h0
          go_wp2_with fail
          go_ret2
          exact ⟨_, _, rfl, hZ3.out.symm, hB.out, by first | (intro e; cases e; done) | exact fun _ => show TypesV (tyL t) _ by rw [hPL.out]; exact rfl⟩
        · have hb0 : ((u.li : Int) == 0) = false := by
            have := hlen.out
            have : L.length ≠ 0 := fun e => h0 (List.eq_nil_of_length_eq_zero e)
            simp; omega
          have hZ3 : Hid (z = 0) := by rw [Hid, ← hZ2.out, if_pos h0]
          clear h0
          go_wp2_with fail
          go_ret2
          exact ⟨_, _, rfl, hZ3.out.symm, hB.out, by first | (intro e; cases e; done) | exact fun _ => show TypesV (tyL t) _ by rw [hPL.out]; exact rfl⟩
  · have hb1 : (u.k == 5) = false := by simp [hk]
    have hzL : Hid ((if [t] ≠ [] ∧ (([t] : List Tr).drop 0).all isTy = true then 0 else 210) = z) := by
      rw [Hid, ← hz.out]; unfold typeZ typeOk; rw [if_neg hk]; simp [isTy, hhd.out.1, hhd.out.2]
    have hPL : Hid (tyL t = [t]) := by rw [Hid]; unfold tyL; rw [if_neg (fun e => hk (hhd.out.1.symm.trans e))]
    clear hk hz
    go_wp2_with fail
    rw [htb.out]
    have hCX : Hid ((((w.alloc (.cells #[.int .i64 u.k, .int .i64 u.x, .string u.s, .slice u.an u.ln u.cn, .slice u.ai u.li u.ci, .int .i64 b.k, .int .i64 b.x, .string b.s, .slice b.an b.ln b.cn, .slice b.ai b.li b.ci, .int .i64 (d : Int)] 88)).alloc (.cells #[.int .i64 u.k, .int .i64 u.x, .string u.s, .slice u.an u.ln u.cn, .slice u.ai u.li u.ci] 25)).alloc (.cells #[.bool false, .bool false, .bool false, .bool false, .bool false, .bool false, .bool false] 102)).heap[tb]? = some (.cells (tcells (tyF (([t] : List Tr).take 0))) 102 (0, 0))) := heap_new' (by rw [← htb.out]; simp)
    have hBX := hid_of (hVO.out.alloc hVO.out.size (.cells #[.bool false, .bool false, .bool false, .bool false, .bool false, .bool false, .bool false] 102))
    have hRow := hid_of (RowT.keep hrow1.out ((Below.refl _ _).alloc (Nat.le_refl _) (.cells #[.bool false, .bool false, .bool false, .bool false, .bool false, .bool false, .bool false] 102)))
    have hlen : Hid ((1 : Int) = (([t] : List Tr).length : Int)) := rfl
    have htb3 : Hid ((((w.alloc (.cells #[.int .i64 u.k, .int .i64 u.x, .string u.s, .slice u.an u.ln u.cn, .slice u.ai u.li u.ci, .int .i64 b.k, .int .i64 b.x, .string b.s, .slice b.an b.ln b.cn, .slice b.ai b.li b.ci, .int .i64 (d : Int)] 88)).alloc (.cells #[.int .i64 u.k, .int .i64 u.x, .string u.s, .slice u.an u.ln u.cn, .slice u.ai u.li u.ci] 25)).alloc (.cells #[.bool false, .bool false, .bool false, .bool false, .bool false, .bool false, .bool false] 102)).heap.size = tb + 1) := by rw [Hid, ← htb.out]; simp
    have hrowlt : Hid ([t] ≠ [] → ∀ b o, some (⟨w.heap.size + 1, 0, none⟩ : Addr) = some ⟨b, o, none⟩ → b < tb) := by
      intro _ b o e; cases e; have := htb.out; omega
    generalize hX : ((w.alloc (.cells #[.int .i64 u.k, .int .i64 u.x, .string u.s, .slice u.an u.ln u.cn, .slice u.ai u.li u.ci, .int .i64 b.k, .int .i64 b.x, .string b.s, .slice b.an b.ln b.cn, .slice b.ai b.li b.ci, .int .i64 (d : Int)] 88)).alloc (.cells #[.int .i64 u.k, .int .i64 u.x, .string u.s, .slice u.an u.ln u.cn, .slice u.ai u.li u.ci] 25)).alloc (.cells #[.bool false, .bool false, .bool false, .bool false, .bool false, .bool false, .bool false] 102) = X at hCX hBX hRow htb3 ⊢
    have htb2 : Hid (w.heap.size ≤ tb) := by have := htb.out; show w.heap.size ≤ tb; omega
    clear hB0 x0 x1 x2 x3 x4 hrow1 hVO
    clear hX
    go_loopw [22] (fun i wr => ∃ q : Nat, q ≤ ([t] : List Tr).length ∧ i = .int .i64 q ∧ Hid (Below w.heap.size w wr) ∧ Hid (Below tb X wr) ∧ Hid (wr.heap[tb]? = some (.cells (tcells (tyF (([t] : List Tr).take q))) 102 (0, 0))) ∧ Hid ((if [t] ≠ [] ∧ (([t] : List Tr).drop q).all isTy = true then 0 else 210) = z)) (fun i _ => ([t] : List Tr).length - (intOf i).toNat)
    case atStart => exact ⟨0, Nat.zero_le _, rfl, hBX, hid_of (Below.refl _ _), hCX, hzL⟩
    case round =>
      obtain ⟨q, hq, rfl, hB, hBt, hC, hZ⟩ := hrel
      by_cases hlt : q < ([t] : List Tr).length
      · obtain ⟨t', ht'⟩ : ∃ s', Hid (([t] : List Tr)[q]? = some s') := ⟨_, hid_e (List.getElem?_eq_getElem hlt)⟩
        have hpos : Hid ([t] ≠ []) := by intro e; rw [e] at hlt; simp at hlt
        obtain ⟨g, o, hai, hg, hV⟩ := hRow.out.resolve_left (by intro e; rw [e] at hlt; simp at hlt)
        obtain ⟨cs, hCs, hr⟩ := VRepL.at [t] o q t' hV ht'.out
        obtain ⟨v, rfl⟩ := vrep_v5 hr
        have hvk := vrep_head hr
        unfold V5.cs five at hCs
        have hgt : g < tb := hrowlt.out hpos.out g o hai
        have z0 := (hBt.out.cell (p := ⟨g, o + q * 5 + 0, none⟩) hgt).trans (hCs 0 _ rfl)
        have z1 := (hBt.out.cell (p := ⟨g, o + q * 5 + 1, none⟩) hgt).trans (hCs 1 _ rfl)
        have z2 := (hBt.out.cell (p := ⟨g, o + q * 5 + 2, none⟩) hgt).trans (hCs 2 _ rfl)
        have z3 := (hBt.out.cell (p := ⟨g, o + q * 5 + 3, none⟩) hgt).trans (hCs 3 _ rfl)
        have z4 := (hBt.out.cell (p := ⟨g, o + q * 5 + 4, none⟩) hgt).trans (hCs 4 _ rfl)
        simp only [Nat.add_zero] at z0
        have hst := hid_of (all_at (f := isTy) ht'.out)
        have hbox := fun o => hid_of (hB.out.alloc hB.out.size o)
        have hbox2 := fun o => hid_of (hBt.out.alloc (by have := hBt.out.size; have := htb3.out; omega) o)
        have hi : (q : Int) < (1 : Int) := by have := hlen.out; omega
        rw [hai]
        clear hV hCs hr hg
        by_cases hk4 : v.k = 4
        · have hb4 : (v.k != 4) = false := by simp [hk4]
          have hX' := hC.out
          have hvs := hid_of hvk.2
          have hTy := hid_of (hT.out.keep (hB.out.block _ hT0.out))
          have hadd := fun o => hid_of (addTy_any tb v.s (tyF (([t] : List Tr).take q)) (wr.alloc o) (hid_of (hTy.out.keep (Below.heap_alloc _ _ _ (Nat.lt_of_lt_of_le hT0.out hB.out.size)))) (hid_of (by have := hT0.out; have := htb2.out; omega)) (hid_of ((Below.heap_alloc _ _ _ (Array.getElem?_eq_some_iff.1 hX').1).trans hX')))
          have hsT : Hid (isTy t' = tyName v.s) := by rw [Hid]; unfold isTy; rw [hvk.1, hvk.2, hk4]; simp
          clear hk4 hvk hX' hTy
          obtain ⟨kn, hkn⟩ : ∃ c, Hid (tyName v.s = c) := ⟨_, rfl⟩
          rw [hkn.out] at hadd hsT
          go_wp2_with fail
          refine (hadd _).out.mono ?_
          rintro e W1 ⟨rfl, hF1, hX1⟩
          rw [tyF_snoc ht'.out hvs.out] at hX1
          have hB1 := hid_of ((hbox (.cells #[.int .i64 v.k, .int .i64 v.x, .string v.s, .slice v.an v.ln v.cn, .slice v.ai v.li v.ci] 25)).out.trans (hF1.below (by have := (hbox (.cells #[.int .i64 v.k, .int .i64 v.x, .string v.s, .slice v.an v.ln v.cn, .slice v.ai v.li v.ci] 25)).out.size; exact this) (fun i e => by subst e; exact htb2.out)))
          have hB2 := hid_of ((hbox2 (.cells #[.int .i64 v.k, .int .i64 v.x, .string v.s, .slice v.an v.ln v.cn, .slice v.ai v.li v.ci] 25)).out.trans (hF1.below (by have := (hbox2 (.cells #[.int .i64 v.k, .int .i64 v.x, .string v.s, .slice v.an v.ln v.cn, .slice v.ai v.li v.ci] 25)).out.size; have := htb3.out; omega) (fun i e => by subst e; exact Nat.le_refl _)))
          replace hX1 := hid_of hX1
          clear hadd hF1 hbox hbox2 hC
          cases kn with
          | true =>
            have hZ2 : Hid ((if [t] ≠ [] ∧ (([t] : List Tr).drop (q + 1)).all isTy = true then 0 else 210) = z) := by
              rw [Hid, ← hZ.out, hst.out, hsT.out, Bool.true_and]
            go_wp2_with fail
            go_roundw
            case rel => exact ⟨q + 1, by omega, by go_num, hB1, hB2, hX1, hZ2⟩
            case measure => have := hlen.out; simp [intOf]; omega
          | false =>
            have hZ2 : Hid (z = 210) := by
              rw [Hid, ← hZ.out, hst.out, hsT.out]; simp
            go_wp2_with fail
            go_ret2
            exact ⟨_, _, rfl, hZ2.out.symm, hB1.out, by first | (intro e; cases e; done) | exact fun _ => show TypesV (tyL t) _ by rw [hPL.out]; exact rfl⟩
        · have hb4 : (v.k != 4) = true := by simp [hk4]
          have hZ2 : Hid (z = 210) := by
            have : isTy t' = false := by unfold isTy; rw [hvk.1]; simp [hk4]
            rw [Hid, ← hZ.out, hst.out, this]; simp
          clear hk4 hvk hst hZ
          go_wp2_with fail
          go_ret2
          exact ⟨_, _, rfl, hZ2.out.symm, (hbox _).out, by first | (intro e; cases e; done) | exact fun _ => show TypesV (tyL t) _ by rw [hPL.out]; exact rfl⟩
      · have e : ([t] : List Tr).drop q = [] := List.drop_eq_nil_of_le (by omega)
        have hZ2 : Hid ((if [t] ≠ [] then 0 else 210) = z) := by rw [Hid, ← hZ.out, e]; simp
        have hi : ¬ (q : Int) < (1 : Int) := by have := hlen.out; omega
        have hX' := hC.out
        rw [List.take_of_length_le (by omega)] at hX'
        obtain ⟨e0, e1, e2, e3, e4, e5, e6⟩ := seven_cells (show wr.heap[tb]? = some (.cells #[.bool (tyF [t] 0), .bool (tyF [t] 1), .bool (tyF [t] 2), .bool (tyF [t] 3), .bool (tyF [t] 4), .bool (tyF [t] 5), .bool (tyF [t] 6)] 102 (0, 0)) from hX')
        clear hlt e hX' hC
        by_cases h0 : [t] = ([] : List Tr)
        · have hb0 : ((1 : Int) == 0) = true := by exact absurd h0 (by simp)
          have hZ3 : Hid (z = 210) := by rw [Hid, ← hZ2.out, if_neg (fun h => h h0)]
          clear h0
          go_wp2_with fail
          go_ret2
          exact ⟨_, _, rfl, hZ3.out.symm, hB.out, by first | (intro e; cases e; done) | exact fun _ => show TypesV (tyL t) _ by rw [hPL.out]; exact rfl⟩
        · have hb0 : ((1 : Int) == 0) = false := by decide
          have hZ3 : Hid (z = 0) := by rw [Hid, ← hZ2.out, if_pos h0]
          clear h0
          go_wp2_with fail
          go_ret2
          exact ⟨_, _, rfl, hZ3.out.symm, hB.out, by first | (intro e; cases e; done) | exact fun _ => show TypesV (tyL t) _ by rw [hPL.out]; exact rfl⟩
end Go.Proofs.YtbcfkajcmbckbaaGreatDoor
