import Derived.Test.YtccfpbnkeaoicaaDoorIB
import Derived.Test.YtccfpbnkeaoicaaDoorID
/-! The law IdentKeys. -/
namespace Go.Proofs.YtccfpbnkeaoicaaDoor
open Go Go.RowKit
theorem join_data (a b : ByteArray) : (joinT a b).data.toList = a.data.toList ++ 47 :: b.data.toList := by
  unfold joinT
  simp [ByteArray.data_append]
theorem join_size (a b : ByteArray) : (joinT a b).size = a.size + 1 + b.size := by
  have : (joinT a b).data.toList.length = a.size + 1 + b.size := by
    rw [join_data, List.length_append, List.length_cons, Array.length_toList, Array.length_toList]
    show a.size + (b.size + 1) = _
    omega
  rw [Array.length_toList] at this
  exact this
theorem name_noslash {a : ByteArray} (h : nameOk a = true) {j : Nat} (hj : j < a.size) : byteAt a j ≠ 47 := by
  unfold nameOk at h
  simp only [Bool.and_eq_true] at h
  have := all_get h.2 hj
  intro e
  rw [e] at this
  exact absurd this (by decide)
theorem name_size {a : ByteArray} (h : nameOk a = true) : a.size ≤ 32 := by
  unfold nameOk at h
  simp at h
  omega
theorem id_size {a : ByteArray} (h : idOk a = true) : a.size ≤ 64 := by
  unfold idOk at h
  simp at h
  omega
theorem join_slash {a b : ByteArray} (h : nameOk a = true) : slashI (joinT a b) = a.size := by
  have hz := join_size a b
  have hat : (joinT a b).data.toList[a.size]? = some 47 := by
    rw [join_data, List.getElem?_append_right (by rw [Array.length_toList]; exact Nat.le_refl _), Array.length_toList]
    show (47 :: b.data.toList)[a.size - a.size]? = _
    simp
  have hge := slash_ge (joinT a b)
  by_cases e : slashI (joinT a b) = -1
  · exact absurd hat (Lib.indexByte_none e a.size)
  · obtain ⟨o, ho⟩ := Int.eq_ofNat_of_zero_le (show 0 ≤ slashI (joinT a b) by omega)
    obtain ⟨h1, h2, h3⟩ := slash_at ho
    rw [ho]
    have hle : o ≤ a.size := by
      rcases Nat.lt_or_ge a.size o with hl | hl
      · refine absurd ?_ (h3 a.size hl)
        have := toList_at (s := joinT a b) (j := a.size) (by omega)
        rw [hat] at this
        exact (Option.some.inj this).symm
      · exact hl
    rcases Nat.lt_or_ge o a.size with hl | hl
    · exfalso
      refine name_noslash h hl ?_
      have q := toList_at (s := joinT a b) (j := o) h1
      rw [join_data, List.getElem?_append_left (by rw [Array.length_toList]; exact hl), toList_at hl] at q
      rw [Option.some.inj q]
      exact h2
    · have : o = a.size := by omega
      rw [this]
theorem join_cut {a b : ByteArray} (h : nameOk a = true) : cutT (joinT a b) = (a, b, true) := by
  unfold cutT
  rw [join_slash h, if_neg (by omega)]
  have e1 : (joinT a b).extract 0 ((a.size : Int)).toNat = a := by
    refine ByteArray.ext (Array.toList_inj.1 ?_)
    rw [ByteArray.data_extract, Array.toList_extract, join_data]
    show List.extract _ _ _ = _
    rw [List.extract_eq_take_drop]
    simp only [Int.toNat_natCast, List.drop_zero, Nat.sub_zero]
    exact List.take_left' (by rw [Array.length_toList]; rfl)
  have e2 : (joinT a b).extract (((a.size : Int)).toNat + 1) (joinT a b).size = b := by
    refine ByteArray.ext (Array.toList_inj.1 ?_)
    rw [ByteArray.data_extract, Array.toList_extract, join_data, join_size]
    show List.extract _ _ _ = _
    rw [List.extract_eq_take_drop]
    simp only [Int.toNat_natCast]
    rw [show a.data.toList ++ 47 :: b.data.toList = (a.data.toList ++ [47]) ++ b.data.toList by simp, List.drop_left' (by rw [List.length_append, Array.length_toList]; rfl)]
    exact List.take_of_length_le (by rw [Array.length_toList]; show b.size ≤ _; omega)
  rw [e1, e2]
theorem join_same {a b c d : ByteArray} (ha : nameOk a = true) (hc : nameOk c = true) : joinT a b = joinT c d ↔ a = c ∧ b = d := by
  constructor
  · intro h
    have h1 := join_cut (b := b) ha
    rw [h, join_cut (b := d) hc] at h1
    have h1 := Prod.mk.inj h1
    exact ⟨h1.1.symm, (Prod.mk.inj h1.2).1.symm⟩
  · rintro ⟨rfl, rfl⟩; rfl
set_option maxHeartbeats 4000000 in
theorem keys_true (a b c d : ByteArray) (ha : a.size ≤ 140737488355328) (hb : b.size ≤ 140737488355328) (hc : c.size ≤ 140737488355328) (hd : d.size ≤ 140737488355328) (w : World) (hR : RoundsAt w) : Calls Tryd.prog 8 #[.agg #[.string a, .string b, .string c, .string d]] w fun e w' => e = .returned (.bool true) ∧ Below w.heap.size w w' := by
  have n1 := hid_of (fun w => name_any a (by omega) w)
  have n2 := hid_of (fun w => id_any b (by omega) w)
  have n3 := hid_of (fun w => name_any c (by omega) w)
  have n4 := hid_of (fun w => id_any d (by omega) w)
  have hl := hid_of (fun w h => live_true w h)
  replace hR := hid_of hR
  go_enter Tryd.func8, Tryd.ntmps8
  go_wp2_with fail
  go_quiet (fail)
  go_wp2_with fail
  have HB := below_one (Below.refl _ w) (Obj.cells #[.string a, .string b, .string c, .string d] 53) nq
  generalize World.drewN (World.alloc w (Obj.cells #[.string a, .string b, .string c, .string d] 53)) nq = w1 at *
  clear nq
  refine (n1.out _).mono ?_
  rintro e w' ⟨rfl, rfl⟩
  clear n1
  have hx := hid_of (hl.out w' (hR.out.keep HB))
  cases h1 : nameOk a
  · go_wp2_with fail
    refine hx.out.mono ?_
    rintro e w2 ⟨rfl, hb2⟩
    go_wp2_with fail
    go_ret
    exact ⟨rfl, HB.trans (hb2.mono HB.size)⟩
  · go_wp2_with fail
    refine (n2.out _).mono ?_
    rintro e w' ⟨rfl, rfl⟩
    clear n2
    cases h2 : idOk b
    · go_wp2_with fail
      refine hx.out.mono ?_
      rintro e w2 ⟨rfl, hb2⟩
      go_wp2_with fail
      go_ret
      exact ⟨rfl, HB.trans (hb2.mono HB.size)⟩
    · go_wp2_with fail
      refine (n3.out _).mono ?_
      rintro e w' ⟨rfl, rfl⟩
      clear n3
      cases h3 : nameOk c
      · go_wp2_with fail
        refine hx.out.mono ?_
        rintro e w2 ⟨rfl, hb2⟩
        go_wp2_with fail
        go_ret
        exact ⟨rfl, HB.trans (hb2.mono HB.size)⟩
      · go_wp2_with fail
        refine (n4.out _).mono ?_
        rintro e w' ⟨rfl, rfl⟩
        clear n4
        cases h4 : idOk d
        · go_wp2_with fail
          refine hx.out.mono ?_
          rintro e w2 ⟨rfl, hb2⟩
          go_wp2_with fail
          go_ret
          exact ⟨rfl, HB.trans (hb2.mono HB.size)⟩
        · have z1 := name_size h1
          have z2 := id_size h2
          have z3 := name_size h3
          have z4 := id_size h4
          have hj1 := hid_of (fun w => join_any a b ha hb w)
          have hj2 := hid_of (fun w => join_any c d hc hd w)
          have hp := hid_of (fun w => part_any (joinT a b) (by rw [join_size]; omega) w)
          have hok : partOk (joinT a b) = true := by unfold partOk; rw [join_cut h1, h1, h2]; rfl
          have hin : partIn (joinT a b) = a := by unfold partIn; rw [if_pos hok, join_cut h1]
          have hid2 : partId (joinT a b) = b := by unfold partId; rw [if_pos hok, join_cut h1]
          rw [hok, hin, hid2] at hp
          have e1 : (a.toList == a.toList) = true := by simp
          have e2 : (b.toList == b.toList) = true := by simp
          have hab : ((joinT a b).toList == (joinT c d).toList) = ((a.toList == c.toList) && (b.toList == d.toList)) := by
            rw [toList_beq, toList_beq, toList_beq, Bool.eq_iff_iff]
            simp [join_same h1 h3]
          clear hok hin hid2 z1 z2 z3 z4 h1 h2 h3 h4 hx
          generalize joinT a b = X at *
          generalize joinT c d = Y at *
          go_wp2_with fail
          refine (hj1.out _).mono ?_
          rintro e w' ⟨rfl, rfl⟩
          go_wp2_with fail
          refine (hp.out _).mono ?_
          rintro e w2 ⟨rfl, q, rfl⟩
          replace HB := below_drewN HB q
          generalize World.drewN w' q = w2 at *
          go_wp2_with fail
          refine (hj2.out _).mono ?_
          rintro e w' ⟨rfl, rfl⟩
          have hx := hid_of (hl.out w' (hR.out.keep HB))
          clear hj1 hj2 hp hl
          cases hac : (a.toList == c.toList)
          · rw [hac, Bool.false_and] at hab
            go_wp2_with fail
            refine hx.out.mono ?_
            rintro e w3 ⟨rfl, hb3⟩
            go_wp2_with fail
            go_ret
            exact ⟨rfl, HB.trans (hb3.mono HB.size)⟩
          · cases hbd : (b.toList == d.toList)
            all_goals
              rw [hac, hbd] at hab
              go_wp2_with fail
              refine hx.out.mono ?_
              rintro e w3 ⟨rfl, hb3⟩
              go_wp2_with fail
              go_ret
              exact ⟨rfl, HB.trans (hb3.mono HB.size)⟩
end Go.Proofs.YtccfpbnkeaoicaaDoor
