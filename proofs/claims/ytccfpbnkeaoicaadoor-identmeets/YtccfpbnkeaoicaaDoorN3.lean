import Derived.Test.YtccfpbnkeaoicaaDoorIB
import Derived.Test.YtccfpbnkeaoicaaDoorID
/-! The law IdentMeets. -/
namespace Go.Proofs.YtccfpbnkeaoicaaDoor
open Go Go.RowKit
def nextT (seed a : Nat) : ByteArray := if a = last64 then ⟨#[]⟩ else madeText seed a
def nextE (a : Nat) : Int := if a = last64 then 80 else 0
/-- A maker is made and asked once. -/
theorem once_any (b seed a : Nat) (ha : a < M64) (w : World) (hR : RoundsAt w) (h : MakerAt w b seed a) : Calls Tryd.prog 10 #[.pointer (some ⟨b, 0, none⟩)] w fun e w' => e = .returned (.tuple #[.string (nextT seed a), .int .i64 (nextE a)]) ∧ Below b w w' := by
  by_cases hl : a = last64
  · subst hl
    refine (next_last b seed w h).mono ?_
    rintro e w' ⟨rfl, rfl⟩
    exact ⟨rfl, Below.refl _ _⟩
  · have e1 : nextT seed a = madeText seed a := if_neg hl
    have e2 : nextE a = 0 := if_neg hl
    rw [e1, e2]
    refine (next_any b seed a (by unfold last64 at *; unfold M64 at ha; omega) w hR h).mono ?_
    rintro e w' ⟨rfl, hb, _⟩
    exact ⟨rfl, hb⟩
set_option maxHeartbeats 4000000 in
theorem meets_true (seed : Nat) (_hs : seed < M64) (a : Nat) (ha : a < M64) (b : Nat) (hb : b < M64) (w : World) (hR : RoundsAt w) : Calls Tryd.prog 3 #[.int .u64 seed, .int .u64 a, .int .u64 b] w fun e w' => e = .returned (.bool true) ∧ Below w.heap.size w w' := by
  have h1 := hid_of (newMaker_any seed a w hR)
  have h2 := hid_of (newMaker_any seed b)
  have hx := hid_of (fun b w => once_any b seed a ha w)
  have hy := hid_of (fun b' w => once_any b' seed b hb w)
  replace hR := hid_of hR
  go_enter Tryd.func3, Tryd.ntmps3
  go_wp2_with fail
  refine h1.out.mono ?_
  rintro e w1 ⟨HB, g1, hg1, rfl, hM⟩
  clear h1
  have hc := hid_of (hx.out g1 w1 (hR.out.keep HB) hM)
  replace hg1 := hid_of hg1
  clear hM hx
  go_wp2_with fail
  refine hc.out.mono ?_
  rintro e w2 ⟨rfl, hb2⟩
  replace HB := HB.trans (hb2.mono hg1.out)
  clear hc hb2 hg1
  have hc := hid_of (h2.out w2 (hR.out.keep HB))
  clear h2
  go_wp2_with fail
  refine hc.out.mono ?_
  rintro e w3 ⟨hb3, g2, hg2, rfl, hM⟩
  clear hc
  have hg2' : Hid (w.heap.size ≤ g2) := Nat.le_trans HB.size hg2
  replace HB := HB.trans (hb3.mono HB.size)
  have hc := hid_of (hy.out g2 w3 (hR.out.keep HB) hM)
  clear hM hy hb3 hg2
  go_wp2_with fail
  refine hc.out.mono ?_
  rintro e w4 ⟨rfl, hb4⟩
  replace HB := HB.trans (hb4.mono hg2'.out)
  clear hc hb4 hg2'
  have na := nat_beq a last64
  have nb := nat_beq b last64
  rw [show ((last64 : Nat) : Int) = 18446744073709551615 from rfl] at na nb
  replace na : ((a : Int) != 18446744073709551615) = !decide (a = last64) := by rw [bne, na]
  replace nb : ((b : Int) != 18446744073709551615) = !decide (b = last64) := by rw [bne, nb]
  go_wp2_with fail
  refine (num_any _ _).mono ?_
  rintro e w' ⟨rfl, rfl⟩
  by_cases ca : a = last64
  · have ea : nextE a = 80 := if_pos ca
    rw [decide_eq_true ca, Bool.not_true] at na
    rw [ea]
    clear ea ca
    have hl := hid_of (live_true w' (hR.out.keep HB))
    by_cases cb : b = last64
    · have eb : nextE b = 80 := if_pos cb
      rw [decide_eq_true cb, Bool.not_true] at nb
      rw [eb]
      clear eb cb
      go_wp2_with fail
      refine (num_any _ _).mono ?_
      rintro e w' ⟨rfl, rfl⟩
      go_wp2_with fail
      refine (num_any _ _).mono ?_
      rintro e w' ⟨rfl, rfl⟩
      go_wp2_with fail
      refine hl.out.mono ?_
      rintro e w7 ⟨rfl, hb7⟩
      go_wp2_with fail
      go_ret
      exact ⟨rfl, HB.trans (hb7.mono HB.size)⟩
    · have eb : nextE b = 0 := if_neg cb
      rw [decide_eq_false cb, Bool.not_false] at nb
      rw [eb]
      clear eb cb
      go_wp2_with fail
      refine (num_any _ _).mono ?_
      rintro e w' ⟨rfl, rfl⟩
      go_wp2_with fail
      refine (num_any _ _).mono ?_
      rintro e w' ⟨rfl, rfl⟩
      go_wp2_with fail
      refine hl.out.mono ?_
      rintro e w7 ⟨rfl, hb7⟩
      go_wp2_with fail
      go_ret
      exact ⟨rfl, HB.trans (hb7.mono HB.size)⟩
  · have ea : nextE a = 0 := if_neg ca
    have ta : nextT seed a = madeText seed a := if_neg ca
    rw [decide_eq_false ca, Bool.not_false] at na
    rw [ea, ta]
    clear ea ta
    by_cases cb : b = last64
    · have eb : nextE b = 80 := if_pos cb
      rw [decide_eq_true cb, Bool.not_true] at nb
      rw [eb]
      clear eb cb
      have hl := hid_of (live_true w' (hR.out.keep HB))
      go_wp2_with fail
      refine (num_any _ _).mono ?_
      rintro e w' ⟨rfl, rfl⟩
      go_wp2_with fail
      refine (num_any _ _).mono ?_
      rintro e w' ⟨rfl, rfl⟩
      go_wp2_with fail
      refine (num_any _ _).mono ?_
      rintro e w' ⟨rfl, rfl⟩
      go_wp2_with fail
      refine hl.out.mono ?_
      rintro e w7 ⟨rfl, hb7⟩
      go_wp2_with fail
      go_ret
      exact ⟨rfl, HB.trans (hb7.mono HB.size)⟩
    · have eb : nextE b = 0 := if_neg cb
      have tb : nextT seed b = madeText seed b := if_neg cb
      rw [decide_eq_false cb, Bool.not_false] at nb
      rw [eb, tb]
      clear eb tb
      have hal : a < last64 := by unfold last64 at *; unfold M64 at ha; omega
      have s17 := made_size seed a
      have hi := hid_of (fun w => id_any (madeText seed a) (by omega) w)
      rw [made_id] at hi
      have hm := hid_of (made_any (madeText seed a) seed (by omega) w' (hR.out.keep HB))
      rw [made_back hal, made_ok hal] at hm
      have hab : ((madeText seed a).toList == (madeText seed b).toList) = ((a : Int) == (b : Int)) := by
        rw [toList_beq, nat_beq]
        by_cases e : a = b
        · subst e; simp
        · rw [decide_eq_false e, decide_eq_false (fun h => e (made_same ha hb h))]
      clear s17 hal ca cb
      generalize madeText seed a = X at *
      generalize madeText seed b = Y at *
      go_wp2_with fail
      refine (num_any _ _).mono ?_
      rintro e w' ⟨rfl, rfl⟩
      go_wp2_with fail
      refine (num_any _ _).mono ?_
      rintro e w' ⟨rfl, rfl⟩
      go_wp2_with fail
      refine (num_any _ _).mono ?_
      rintro e w' ⟨rfl, rfl⟩
      go_wp2_with fail
      refine hm.out.mono ?_
      rintro e w7 ⟨rfl, hb7⟩
      replace HB := HB.trans (hb7.mono HB.size)
      clear hb7 hm
      have hl := hid_of (live_true w7 (hR.out.keep HB))
      go_wp2_with fail
      refine (hi.out _).mono ?_
      rintro e w' ⟨rfl, rfl⟩
      go_wp2_with fail
      refine hl.out.mono ?_
      rintro e w8 ⟨rfl, hb8⟩
      go_wp2_with fail
      go_ret
      exact ⟨rfl, HB.trans (hb8.mono HB.size)⟩
end Go.Proofs.YtccfpbnkeaoicaaDoor
