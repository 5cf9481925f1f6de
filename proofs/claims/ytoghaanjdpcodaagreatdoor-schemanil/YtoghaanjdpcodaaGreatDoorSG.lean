import Derived.Test.YtoghaanjdpcodaaGreatDoorSF
import Derived.Maps.OwnSet
/-! schema: the maker of required. -/
namespace Go.Proofs.YtoghaanjdpcodaaGreatDoor
open Go Go.RowKit

/-- What required may be given. -/
def reqZ (k : Int) (its : List Tr) : Int := if k = 5 ∧ its.all (fun t => t.kind == 4) = true then 0 else 210
theorem all_at {its : List Tr} {f : Tr → Bool} {q : Nat} {t : Tr} (h : its[q]? = some t) : (its.drop q).all f = (f t && (its.drop (q + 1)).all f) := by
  have hlt := (List.getElem?_eq_some_iff.1 h).1
  rw [List.drop_eq_getElem_cons hlt, (List.getElem?_eq_some_iff.1 h).2, List.all_cons]
set_option maxHeartbeats 4000000 in
set_option maxRecDepth 100000 in
theorem required_any (r : Value) (u b : V5) (d : Nat) (its : List Tr) (w : World) (hli : Hid (u.li = its.length)) (hI : Hid (ItemsAt' w u.ai its)) (hS : Hid (SmallL its)) (hl : its.length ≤ 8796093021952) :
    Calls Tryz.prog 25 #[r, givenV u b d] w fun e w' => ∃ v z, e = .returned (.tuple #[v, .int .i64 z]) ∧ z = reqZ u.k its ∧ Below w.heap.size w w' ∧ (z = 0 → ∃ ty x, v = .iface ty x) := by
  have hmm := @run_makeMap Tryz.prog
  have hB0 := (Below.refl _ w).alloc (Nat.le_refl _) (givenO u b d)
  have hB1 := hid_of (hB0.alloc hB0.size (.map #[] 0))
  have hM0 : NumsAt ((w.alloc (givenO u b d)).alloc (.map #[] 0)) (w.alloc (givenO u b d)).heap.size 0 (.map []) := World.ownsMap_made _ _ _ _
  obtain ⟨x0, x1, x2, x3, x4, -⟩ := givenO_cells (heap_alloc_new w (givenO u b d))
  have y4 := cell_alloc' x4 (.map #[] 0)
  rw [World.size_alloc] at hM0
  replace hM0 := hid_of hM0
  unfold givenO at *
  unfold givenV
  go_enter Tryz.func25, Tryz.ntmps25
  by_cases hk : u.k = 5
  · have hb1 : (u.k != 5) = false := by simp [hk]
    obtain ⟨z, hz⟩ : ∃ z, Hid (reqZ u.k its = z) := ⟨_, rfl⟩
    have hz2 : Hid ((if its.all (fun t => t.kind == 4) = true then 0 else 210) = z) := by
      rw [Hid, ← hz.out]; unfold reqZ; simp [hk]
    rw [hz.out]
    clear hk hz
    go_wp2_with fail
    obtain ⟨mb, hmb⟩ : ∃ m, Hid (w.heap.size + 1 = m) := ⟨_, hid_of rfl⟩
    rw [hmb.out] at hM0 ⊢
    generalize hX : (w.alloc (.cells #[.int .i64 u.k, .int .i64 u.x, .string u.s, .slice u.an u.ln u.cn, .slice u.ai u.li u.ci, .int .i64 b.k, .int .i64 b.x, .string b.s, .slice b.an b.ln b.cn, .slice b.ai b.li b.ci, .int .i64 (d : Int)] 79)).alloc (.map #[] 0) = X at y4 hM0 hB1 ⊢
    clear hX hmm hB0 x0 x1 x2 x3 x4 y4
    go_loopw [20] (fun i wr => ∃ q : Nat, q ≤ its.length ∧ i = .int .i64 q ∧ Hid (∃ D, NumsAt wr mb q D) ∧ Hid (Below w.heap.size w wr) ∧ Hid ((if (its.drop q).all (fun t => t.kind == 4) = true then 0 else 210) = z)) (fun i _ => its.length - (intOf i).toNat)
    case atStart => exact ⟨0, Nat.zero_le _, rfl, ⟨_, hM0.out⟩, hB1, hz2⟩
    case round =>
      obtain ⟨q, hq, rfl, hM, hB, hZ⟩ := hrel
      by_cases hlt : q < its.length
      · obtain ⟨t, ht⟩ : ∃ t, Hid (its[q]? = some t) := ⟨_, hid_e (List.getElem?_eq_getElem hlt)⟩
        obtain ⟨g, o, hai, hg, hV⟩ := hI.out.resolve_left (by intro e; subst e; simp at hlt)
        obtain ⟨cs, hCs, hr⟩ := VRepL.at its o q t hV ht.out
        obtain ⟨v, rfl⟩ := vrep_v5 hr
        have hvk : t.kind = v.k ∧ t.text = v.s := by
          obtain ⟨k, x, s, ns, is⟩ := t
          unfold VRep V5.cs five at hr
          obtain ⟨nm, a, c, e, -⟩ := hr
          simp only [List.cons.injEq, Value.int.injEq, Value.string.injEq, true_and] at e
          exact ⟨e.1.symm, e.2.2.1.symm⟩
        unfold V5.cs five at hCs
        have z0 := stay hB.out (hCs 0 _ rfl)
        have z1 := stay hB.out (hCs 1 _ rfl)
        have z2 := stay hB.out (hCs 2 _ rfl)
        have z3 := stay hB.out (hCs 3 _ rfl)
        have z4 := stay hB.out (hCs 4 _ rfl)
        simp only [Nat.add_zero] at z0
        have hst := hid_of (all_at (f := fun t => t.kind == 4) ht.out)
        have hsm := hid_of (SmallL.at hS.out ht.out)
        have hbox := fun o => hid_of (hB.out.alloc hB.out.size o)
        have hi : (q : Int) < (u.li : Int) := by have := hli.out; omega
        rw [hai]
        clear hV hCs hr hg
        by_cases hk4 : v.k = 4
        · have hb4 : (v.k != 4) = false := by simp [hk4]
          have hZ2 : Hid ((if (its.drop (q + 1)).all (fun t => t.kind == 4) = true then 0 else 210) = z) := by
            rw [Hid, ← hZ.out, hst.out, hvk.1, hk4]; simp
          have hsv : Hid (v.s.size ≤ 140737488351232) := by
            have h1 := hsm.out
            have h2 := hvk.2
            obtain ⟨k, x, s, ns, is⟩ := t
            unfold SmallT at h1
            have h3 : s = v.s := h2
            rw [← h3]; exact h1.1
          obtain ⟨D, hD⟩ := hM.out
          have hkey := key_big v.s hsv.out
          have hown : ∀ o, (wr.alloc o).ownsMap Tryz.prog 9 (plainElem Tryz.prog 3) mb q D := fun o => World.ownsMap.alloc hD o
          have hlen := fun o => World.ownsMap.len (hown o) Tryz.underlying84 3
          have hlk : ∀ o, ∃ y, (Instr.lookup 84 (.map (some mb)) (.string v.s) true).run Tryz.prog (wr.alloc o) = .ok (.tuple #[y, .bool (Maps.has D (keyL v.s))]) (wr.alloc o) := fun o => by
            obtain ⟨y, ps, hrun, -⟩ := World.ownsMap.look_ok (hown o) law9 Tryz.underlying84 (Tryz.zeroValue3 _) (zd := .lit (.int .i64 0)) (zp := []) (plainElem_int Tryz.underlying3 (by decide)) hkey
            exact ⟨y, hrun⟩
          have hsz : Maps.size D ≤ q := World.ownsMap.size_le hD
          have hval := int_elem (Maps.size D : Int) (wf_nat (Maps.size D) (by omega))
          have hq2 : Hid (q < maxLen) := by show q < maxLen; unfold maxLen; omega
          have hlk2 := hlk (.cells #[.int .i64 v.k, .int .i64 v.x, .string v.s, .slice v.an v.ln v.cn, .slice v.ai v.li v.ci] 28)
          obtain ⟨y, hy⟩ := hlk2
          obtain ⟨hb, hhb⟩ : ∃ c, Hid (Maps.has D (keyL v.s) = c) := ⟨_, rfl⟩
          rw [hhb.out] at hy
          clear hk4 hvk hsm hst hZ hlk hsz hhb
          cases hb with
          | true =>
            go_wp2_with fail
            go_roundw
            case rel => exact ⟨q + 1, by omega, by go_num, ⟨D, World.ownsMap.mono (hown _) (by omega)⟩, hbox _, hZ2⟩
            case measure => have := hli.out; simp [intOf]; omega
          | false =>
            go_wp2_with (at_mapUpdate; refine wpList_mapUpdate_own _ rfl _ _ _ 84 rfl 9 3 law9 Tryz.underlying84 (plainElem Tryz.prog 3) mb q _ rfl (hown _) hq2.out _ _ _ rfl rfl hkey _ [] hval ?_; intro w1 hown1 hgrow1)
            go_roundw
            case rel => exact ⟨q + 1, by omega, by go_num, ⟨_, hown1⟩, hid_of ((hbox _).out.trans (grown_below hgrow1 (hbox _).out.size (fun g e => by cases e; have := hmb.out; omega))), hZ2⟩
            case measure => have := hli.out; simp [intOf]; omega
        · have hb4 : (v.k != 4) = true := by simp [hk4]
          have hZ2 : Hid (z = 210) := by
            rw [Hid, ← hZ.out, hst.out, hvk.1]; simp [hk4]
          clear hk4 hvk hsm hst hZ
          go_wp2_with fail
          go_ret2
          exact ⟨_, _, rfl, hZ2.out.symm, (hbox _).out, by first | exact fun _ => ⟨_, _, rfl⟩ | (intro e; cases e)⟩
      · have e : its.drop q = [] := List.drop_eq_nil_of_le (by omega)
        have hZ2 : Hid (z = 0) := by rw [Hid, ← hZ.out, e]; rfl
        have hi : ¬ (q : Int) < (u.li : Int) := by have := hli.out; omega
        clear hlt e
        go_wp2_with fail
        go_ret2
        exact ⟨_, _, rfl, hZ2.out.symm, hB.out, by first | exact fun _ => ⟨_, _, rfl⟩ | (intro e; cases e)⟩
  · have hb1 : (u.k != 5) = true := by simp [hk]
    have hk' : Hid (reqZ u.k its = 210) := by rw [Hid]; unfold reqZ; rw [if_neg (fun h => hk h.1)]
    rw [hk'.out]
    clear hk
    go_wp2_with fail
    go_ret2
    exact ⟨_, _, rfl, rfl, hB0, by first | exact fun _ => ⟨_, _, rfl⟩ | (intro e; cases e)⟩
end Go.Proofs.YtoghaanjdpcodaaGreatDoor
