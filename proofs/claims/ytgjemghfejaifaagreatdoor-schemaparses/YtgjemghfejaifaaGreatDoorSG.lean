import Derived.Test.YtgjemghfejaifaaGreatDoorSE
import Derived.Test.YtgjemghfejaifaaGreatDoorZB3
import Derived.Maps.OwnSet
/-! schema: names with their numbers, in a map; the maker of required. -/
namespace Go.Proofs.YtgjemghfejaifaaGreatDoor
open Go Go.RowKit

/-- Names with their numbers. -/
def numsD (l : List ByteArray) : DataW Unit := (l.foldl (fun (p : DataW Unit × Nat) s => (p.1.put (keyL s) (.lit (.int .i64 (p.2 : Int))), p.2 + 1)) (.map [], 0)).1
theorem numsD_two (l : List ByteArray) : (l.foldl (fun (p : DataW Unit × Nat) s => (p.1.put (keyL s) (.lit (.int .i64 (p.2 : Int))), p.2 + 1)) (.map [], 0)).2 = l.length := by
  have : ∀ (l : List ByteArray) (D : DataW Unit) (n : Nat), (l.foldl (fun (p : DataW Unit × Nat) s => (p.1.put (keyL s) (.lit (.int .i64 (p.2 : Int))), p.2 + 1)) (D, n)).2 = n + l.length := by
    intro l
    induction l with
    | nil => intro D n; rfl
    | cons a l ih => intro D n; rw [List.foldl_cons, ih]; simp; omega
  rw [this]; omega
theorem numsD_snoc (l : List ByteArray) (s : ByteArray) : numsD (l ++ [s]) = (numsD l).put (keyL s) (.lit (.int .i64 (l.length : Int))) := by
  unfold numsD
  rw [List.foldl_append, List.foldl_cons, List.foldl_nil, numsD_two]
/-- A map of numbers by names. -/
def NumsAt (w : World) (m n : Nat) (D : DataW Unit) : Prop := w.ownsMap Tryz.prog 9 (plainElem Tryz.prog 3) m n D
theorem NumsAt.keep {w w' : World} {m n : Nat} {D : DataW Unit} (h : NumsAt w m n D) (hb : w'.heap[m]? = w.heap[m]?) : NumsAt w' m n D := by
  obtain ⟨es, cl, hm, r⟩ := h
  exact ⟨es, cl, hb.trans hm, r⟩
theorem NumsAt.lt {w : World} {m n : Nat} {D : DataW Unit} (h : NumsAt w m n D) : m < w.heap.size := World.ownsMap.lt h
theorem int_elem (z : Int) (hz : (Lit.int .i64 z).wf = true) : plainElem (H := Unit) Tryz.prog 3 (.int .i64 z) = some (.lit (.int .i64 z), []) := plainElem_int Tryz.underlying3 hz
theorem wf_nat (q : Nat) (h : q ≤ 9000000000000000000) : (Lit.int .i64 (q : Int)).wf = true := by
  have e1 : IntKind.i64.min = -9223372036854775808 := by decide
  have e2 : IntKind.i64.max = 9223372036854775807 := by decide
  simp only [Lit.wf, e1, e2, Bool.and_eq_true, decide_eq_true_eq]
  omega
set_option maxHeartbeats 2000000 in
set_option maxRecDepth 100000 in
theorem numbered_any (an : Option Addr) (cn : Nat) (ns : List ByteArray) (w : World) (hN : Hid (Reads w (.slice an ns.length cn) ns)) (hz : Hid (∀ n ∈ ns, n.size ≤ 140737488351232)) (hl : ns.length ≤ 8796093021952) :
    Calls Tryz.prog 54 #[.slice an ns.length cn] w fun e w' => ∃ m, e = .returned (.map (some m)) ∧ w.heap.size ≤ m ∧ NumsAt w' m ns.length (numsD ns) ∧ Below w.heap.size w w' := by
  have hmm := @run_makeMap Tryz.prog
  have hM0 : NumsAt (w.alloc (.map #[] 0)) w.heap.size 0 (numsD []) := World.ownsMap_made w _ _ _
  have hB0 := hid_of ((Below.refl _ w).alloc (Nat.le_refl _) (.map #[] 0))
  replace hM0 := hid_of hM0
  obtain ⟨mb, hmb⟩ : ∃ b, Hid (w.heap.size = b) := ⟨_, hid_of rfl⟩
  go_enter Tryz.func54, Tryz.ntmps54
  go_wp2_with fail
  rw [hmb.out] at hM0 hB0 ⊢
  generalize hX : w.alloc (.map #[] 0) = X at hM0 hB0 ⊢
  clear hX hmm
  go_loopw [9] (fun i wr => ∃ q : Nat, q ≤ ns.length ∧ i = .int .i64 q ∧ Hid (NumsAt wr mb q (numsD (ns.take q))) ∧ Hid (Below mb w wr)) (fun i _ => ns.length - (intOf i).toNat)
  case atStart => exact ⟨0, Nat.zero_le _, rfl, hM0, hB0⟩
  case round =>
    obtain ⟨q, hq, rfl, hM, hB⟩ := hrel
    by_cases hlt : q < ns.length
    · obtain ⟨s, hs⟩ : ∃ s, Hid (ns[q]? = some s) := ⟨_, hid_e (List.getElem?_eq_getElem hlt)⟩
      obtain ⟨a, c, e, hc, h0⟩ := hN.out
      obtain ⟨b, o, e2, hb, hA⟩ := h0.resolve_left (by intro e; subst e; simp at hlt)
      simp only [Value.slice.injEq] at e
      obtain ⟨rfl, -, rfl⟩ := e
      subst e2
      have t0 : wr.cell? ⟨b, o + q, none⟩ = some (.string s) := ((hB.out.cell (p := ⟨b, o + q, none⟩) (by rw [← hmb.out]; exact hb)).trans (hA q s hs.out))
      have hkey := key_big s (hz.out s (List.mem_of_getElem? hs.out))
      have hval := int_elem (q : Int) (wf_nat q (by omega))
      have hown := hM.out
      unfold NumsAt at hown
      have hq2 : q < maxLen := by unfold maxLen; omega
      have hi : (q : Int) < (ns.length : Int) := by omega
      have hcn : ns.length ≤ cn := hc.1
      clear hA h0 hc
      go_wp2_with (at_mapUpdate; refine wpList_mapUpdate_own _ rfl _ _ _ 97 rfl 9 3 law9 Tryz.underlying97 (plainElem Tryz.prog 3) mb q _ rfl hown hq2 _ _ _ rfl rfl hkey _ [] hval ?_; intro w1 hown1 hgrow1)
      go_roundw
      case rel =>
        refine ⟨q + 1, by omega, by go_num, hid_of ?_, hid_of ?_⟩
        · rw [List.take_add_one, hs.out]
          show NumsAt w1 mb (q + 1) (numsD (ns.take q ++ [s]))
          rw [numsD_snoc, List.length_take, Nat.min_eq_left hq]
          exact hown1
        · exact grown_below hgrow1 (by have := hB.out.size; have := hmb.out; omega) (fun g e => by cases e; exact Nat.le_refl _) |> fun h => hB.out.trans h
      case measure => simp [intOf]; omega
    · have e : q = ns.length := by omega
      have hi : ¬ (q : Int) < (ns.length : Int) := by omega
      clear hlt
      go_wp2_with fail
      go_ret
      refine ⟨mb, rfl, Nat.le_of_eq hmb.out, ?_, hmb.out ▸ hB.out⟩
      have := hM.out
      rw [e, List.take_length] at this
      exact this
end Go.Proofs.YtgjemghfejaifaaGreatDoor
/-! schema: the maker of required. -/
namespace Go.Proofs.YtgjemghfejaifaaGreatDoor
open Go Go.RowKit

/-- What required may be given. -/
def reqZ (k : Int) (its : List Tr) : Int := if k = 5 ∧ its.all (fun t => t.kind == 4) = true then 0 else 210
theorem all_at {its : List Tr} {f : Tr → Bool} {q : Nat} {t : Tr} (h : its[q]? = some t) : (its.drop q).all f = (f t && (its.drop (q + 1)).all f) := by
  have hlt := (List.getElem?_eq_some_iff.1 h).1
  rw [List.drop_eq_getElem_cons hlt, (List.getElem?_eq_some_iff.1 h).2, List.all_cons]
set_option maxHeartbeats 4000000 in
set_option maxRecDepth 100000 in
theorem required_any (r : Value) (u b : V5) (d : Nat) (its : List Tr) (w : World) (hli : Hid (u.li = its.length)) (hI : Hid (ItemsAt' w u.ai its)) (hS : Hid (SmallL its)) (hl : its.length ≤ 8796093021952) :
    Calls Tryz.prog 30 #[r, givenV u b d] w fun e w' => ∃ v z, e = .returned (.tuple #[v, .int .i64 z]) ∧ z = reqZ u.k its ∧ Below w.heap.size w w' ∧ (z = 0 → ∃ ty x, v = .iface ty x) := by
  have hmm := @run_makeMap Tryz.prog
  have hB0 := (Below.refl _ w).alloc (Nat.le_refl _) (givenO u b d)
  have hB1 := hid_of (hB0.alloc hB0.size (.map #[] 0))
  have hM0 : NumsAt ((w.alloc (givenO u b d)).alloc (.map #[] 0)) (w.alloc (givenO u b d)).heap.size 0 (.map []) := World.ownsMap_made _ _ _ _
  obtain ⟨x0, x1, x2, x3, x4, -⟩ := givenO_cells (heap_alloc_new w (givenO u b d))
  have y4 := cell_alloc' x4 (.map #[] 0)
  rw [World.size_alloc] at hM0
  replace hM0 := hid_of hM0
  unfold givenO at *
  unfold givenV
  go_enter Tryz.func30, Tryz.ntmps30
  by_cases hk : u.k = 5
  · have hb1 : (u.k != 5) = false := by simp [hk]
    obtain ⟨z, hz⟩ : ∃ z, Hid (reqZ u.k its = z) := ⟨_, rfl⟩
    have hz2 : Hid ((if its.all (fun t => t.kind == 4) = true then 0 else 210) = z) := by
      rw [Hid, ← hz.out]; unfold reqZ; simp [hk]
    rw [hz.out]
    clear hk hz
    go_wp2_with fail
    obtain ⟨mb, hmb⟩ : ∃ m, Hid (w.heap.size + 1 = m) := ⟨_, hid_of rfl⟩
    rw [hmb.out] at hM0 ⊢
    generalize hX : (w.alloc (.cells #[.int .i64 u.k, .int .i64 u.x, .string u.s, .slice u.an u.ln u.cn, .slice u.ai u.li u.ci, .int .i64 b.k, .int .i64 b.x, .string b.s, .slice b.an b.ln b.cn, .slice b.ai b.li b.ci, .int .i64 (d : Int)] 82)).alloc (.map #[] 0) = X at y4 hM0 hB1 ⊢
    clear hX hmm hB0 x0 x1 x2 x3 x4 y4
    go_loopw [20] (fun i wr => ∃ q : Nat, q ≤ its.length ∧ i = .int .i64 q ∧ Hid (∃ D, NumsAt wr mb q D) ∧ Hid (Below w.heap.size w wr) ∧ Hid ((if (its.drop q).all (fun t => t.kind == 4) = true then 0 else 210) = z)) (fun i _ => its.length - (intOf i).toNat)
    case atStart => exact ⟨0, Nat.zero_le _, rfl, ⟨_, hM0.out⟩, hB1, hz2⟩
    case round =>
      obtain ⟨q, hq, rfl, hM, hB, hZ⟩ := hrel
      by_cases hlt : q < its.length
      · obtain ⟨t, ht⟩ : ∃ t, Hid (its[q]? = some t) := ⟨_, hid_e (List.getElem?_eq_getElem hlt)⟩
        obtain ⟨g, o, hai, hg, hV⟩ := hI.out.resolve_left (by intro e; subst e; simp at hlt)
        obtain ⟨cs, hCs, hr⟩ := VRepL.at its o q t hV ht.out
        obtain ⟨v, rfl⟩ := vrep_v5 hr
        have hvk : t.kind = v.k ∧ t.text = v.s := by
          obtain ⟨k, x, s, ns, is⟩ := t
          unfold VRep V5.cs five at hr
          obtain ⟨nm, a, c, e, -⟩ := hr
          simp only [List.cons.injEq, Value.int.injEq, Value.string.injEq, true_and] at e
          exact ⟨e.1.symm, e.2.2.1.symm⟩
        unfold V5.cs five at hCs
        have z0 := stay hB.out (hCs 0 _ rfl)
        have z1 := stay hB.out (hCs 1 _ rfl)
        have z2 := stay hB.out (hCs 2 _ rfl)
        have z3 := stay hB.out (hCs 3 _ rfl)
        have z4 := stay hB.out (hCs 4 _ rfl)
        simp only [Nat.add_zero] at z0
        have hst := hid_of (all_at (f := fun t => t.kind == 4) ht.out)
        have hsm := hid_of (SmallL.at hS.out ht.out)
        have hbox := fun o => hid_of (hB.out.alloc hB.out.size o)
        have hi : (q : Int) < (u.li : Int) := by have := hli.out; omega
        rw [hai]
        clear hV hCs hr hg
        by_cases hk4 : v.k = 4
        · have hb4 : (v.k != 4) = false := by simp [hk4]
          have hZ2 : Hid ((if (its.drop (q + 1)).all (fun t => t.kind == 4) = true then 0 else 210) = z) := by
            rw [Hid, ← hZ.out, hst.out, hvk.1, hk4]; simp
          have hsv : Hid (v.s.size ≤ 140737488351232) := by
            have h1 := hsm.out
            have h2 := hvk.2
            obtain ⟨k, x, s, ns, is⟩ := t
            unfold SmallT at h1
            have h3 : s = v.s := h2
            rw [← h3]; exact h1.1
          obtain ⟨D, hD⟩ := hM.out
          have hkey := key_big v.s hsv.out
          have hown : ∀ o, (wr.alloc o).ownsMap Tryz.prog 9 (plainElem Tryz.prog 3) mb q D := fun o => World.ownsMap.alloc hD o
          have hlen := fun o => World.ownsMap.len (hown o) Tryz.underlying97 3
          have hlk : ∀ o, ∃ y, (Instr.lookup 97 (.map (some mb)) (.string v.s) true).run Tryz.prog (wr.alloc o) = .ok (.tuple #[y, .bool (Maps.has D (keyL v.s))]) (wr.alloc o) := fun o => by
            obtain ⟨y, ps, hrun, -⟩ := World.ownsMap.look_ok (hown o) law9 Tryz.underlying97 (Tryz.zeroValue3 _) (zd := .lit (.int .i64 0)) (zp := []) (plainElem_int Tryz.underlying3 (by decide)) hkey
            exact ⟨y, hrun⟩
          have hsz : Maps.size D ≤ q := World.ownsMap.size_le hD
          have hval := int_elem (Maps.size D : Int) (wf_nat (Maps.size D) (by omega))
          have hq2 : Hid (q < maxLen) := by show q < maxLen; unfold maxLen; omega
          have hlk2 := hlk (.cells #[.int .i64 v.k, .int .i64 v.x, .string v.s, .slice v.an v.ln v.cn, .slice v.ai v.li v.ci] 25)
          obtain ⟨y, hy⟩ := hlk2
          obtain ⟨hb, hhb⟩ : ∃ c, Hid (Maps.has D (keyL v.s) = c) := ⟨_, rfl⟩
          rw [hhb.out] at hy
          clear hk4 hvk hsm hst hZ hlk hsz hhb
          cases hb with
          | true =>
            go_wp2_with fail
            go_roundw
            case rel => exact ⟨q + 1, by omega, by go_num, ⟨D, World.ownsMap.mono (hown _) (by omega)⟩, hbox _, hZ2⟩
            case measure => have := hli.out; simp [intOf]; omega
          | false =>
            go_wp2_with (at_mapUpdate; refine wpList_mapUpdate_own _ rfl _ _ _ 97 rfl 9 3 law9 Tryz.underlying97 (plainElem Tryz.prog 3) mb q _ rfl (hown _) hq2.out _ _ _ rfl rfl hkey _ [] hval ?_; intro w1 hown1 hgrow1)
            go_roundw
            case rel => exact ⟨q + 1, by omega, by go_num, ⟨_, hown1⟩, hid_of ((hbox _).out.trans (grown_below hgrow1 (hbox _).out.size (fun g e => by cases e; have := hmb.out; omega))), hZ2⟩
            case measure => have := hli.out; simp [intOf]; omega
        · have hb4 : (v.k != 4) = true := by simp [hk4]
          have hZ2 : Hid (z = 210) := by
            rw [Hid, ← hZ.out, hst.out, hvk.1]; simp [hk4]
          clear hk4 hvk hsm hst hZ
          go_wp2_with fail
          go_ret2
          exact ⟨_, _, rfl, hZ2.out.symm, (hbox _).out, by first | exact fun _ => ⟨_, _, rfl⟩ | (intro e; cases e)⟩
      · have e : its.drop q = [] := List.drop_eq_nil_of_le (by omega)
        have hZ2 : Hid (z = 0) := by rw [Hid, ← hZ.out, e]; rfl
        have hi : ¬ (q : Int) < (u.li : Int) := by have := hli.out; omega
        clear hlt e
        go_wp2_with fail
        go_ret2
        exact ⟨_, _, rfl, hZ2.out.symm, hB.out, by first | exact fun _ => ⟨_, _, rfl⟩ | (intro e; cases e)⟩
  · have hb1 : (u.k != 5) = true := by simp [hk]
    have hk' : Hid (reqZ u.k its = 210) := by rw [Hid]; unfold reqZ; rw [if_neg (fun h => hk h.1)]
    rw [hk'.out]
    clear hk
    go_wp2_with fail
    go_ret2
    exact ⟨_, _, rfl, rfl, hB0, by first | exact fun _ => ⟨_, _, rfl⟩ | (intro e; cases e)⟩
end Go.Proofs.YtgjemghfejaifaaGreatDoor
