import Derived.Test.YtccfpbnkeaoicaaDoorIA
/-! ident: live. -/
namespace Go.Proofs.YtccfpbnkeaoicaaDoor
open Go Go.RowKit
def foobar : ByteArray := ⟨#[102, 111, 111, 98, 97, 114]⟩
theorem foobar_sum : hashN fnv foobar.data.toList = 9625390261332436968 := by decide +kernel
theorem mix_zero : mixN 0 = 16294208416658607535 := by decide +kernel
theorem name_a1 : nameOk ⟨#[97, 45, 49]⟩ = true := by decide +kernel
theorem name_A : nameOk ⟨#[65]⟩ = false := by decide +kernel
theorem MakerAt.keep {w w' : World} {b seed c : Nat} (h : MakerAt w b seed c) (hb : Below w.heap.size w w') : MakerAt w' b seed c := (hb.block _ (Array.getElem?_eq_some_iff.1 h).1).trans h
set_option maxHeartbeats 4000000 in
set_option maxRecDepth 100000 in
theorem live_true (w : World) (hR : RoundsAt w) : Calls Tryd.prog 12 #[] w fun e w' => e = .returned (.bool true) ∧ Below w.heap.size w w' := by
  have h1 := hid_of (newMaker_any 7 5 w hR)
  have s17 := made_size 7 5
  have hid1 := made_id 7 5
  have b1 := made_back (seed := 7) (c := 5) (by decide)
  have b2 := made_ok (seed := 7) (c := 5) (by decide)
  replace hR := hid_of hR
  generalize hT : madeText 7 5 = T at *
  replace hT := hid_of hT
  have hn1 := hid_of (fun w => name_any ⟨#[97, 45, 49]⟩ (by decide) w)
  have hn2 := hid_of (fun w => name_any ⟨#[65]⟩ (by decide) w)
  rw [name_a1] at hn1
  rw [name_A] at hn2
  have hh := hid_of (fun w => hash_any foobar (by decide) w)
  rw [foobar_sum] at hh
  have hi := hid_of (fun w => id_any T (by omega) w)
  rw [hid1] at hi
  have hmd : Hid (∀ w, RoundsAt w → Calls Tryd.prog 13 #[.string T, .int .u64 7] w fun e w' => e = .returned (.tuple #[.int .u64 5, .bool true]) ∧ Below w.heap.size w w') := fun w hR => by
    have := made_any T 7 (by omega) w hR
    rw [b1, b2] at this
    exact this
  have hm0 : Hid (∀ w, RoundsAt w → Calls Tryd.prog 16 #[.int .u64 0] w fun e w' => e = .returned (.int .u64 16294208416658607535) ∧ Below w.heap.size w w') := fun w hR => by
    have := mix_any 0 w hR
    rw [mix_zero] at this
    exact this
  clear s17 hid1 b1 b2
  go_enter Tryd.func12, Tryd.ntmps12
  go_wp2_with fail
  refine h1.out.mono ?_
  rintro e w1 ⟨HB, b, hbb, rfl, hM⟩
  clear h1
  have hx := hid_of (next_any b 7 5 (by decide) w1 (hR.out.keep HB) hM)
  rw [hT.out] at hx
  replace hbb := hid_of hbb
  clear hM hT
  go_wp2_with fail
  refine hx.out.mono ?_
  rintro e w2 ⟨rfl, hb2, -⟩
  replace HB := HB.trans (hb2.mono hbb.out)
  clear hx hb2 hbb
  have hx := hid_of (hmd.out w2 (hR.out.keep HB))
  clear hmd
  go_wp2_with fail
  refine hx.out.mono ?_
  rintro e w3 ⟨rfl, hb3⟩
  replace HB := HB.trans (hb3.mono HB.size)
  clear hx hb3
  go_wp2_with fail
  refine (num_any 0 _).mono ?_
  rintro e w' ⟨rfl, rfl⟩
  go_wp2_with fail
  refine (hi.out _).mono ?_
  rintro e w' ⟨rfl, rfl⟩
  clear hi
  go_wp2_with fail
  refine (hh.out _).mono ?_
  rintro e w' ⟨rfl, rfl⟩
  clear hh
  have hx := hid_of (hm0.out _ (hR.out.keep HB))
  clear hm0
  go_wp2_with fail
  refine hx.out.mono ?_
  rintro e w4 ⟨rfl, hb4⟩
  replace HB := HB.trans (hb4.mono HB.size)
  clear hx hb4
  go_wp2_with fail
  refine (hn1.out _).mono ?_
  rintro e w' ⟨rfl, rfl⟩
  go_wp2_with fail
  refine (hn2.out _).mono ?_
  rintro e w' ⟨rfl, rfl⟩
  go_wp2_with fail
  go_ret
  exact ⟨rfl, HB⟩
end Go.Proofs.YtccfpbnkeaoicaaDoor
