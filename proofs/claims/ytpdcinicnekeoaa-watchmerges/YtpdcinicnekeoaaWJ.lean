import Derived.Test.YtpdcinicnekeoaaWI
/-! watch: live. -/
namespace Go.Proofs.Ytpdcinicnekeoaa
open Go Go.RowKit Go.Watch
def c0 : Chg := ⟨0, ⟨#[99]⟩, ⟨#[97]⟩, 1⟩
def c5 : Chg := ⟨5, ⟨#[99]⟩, ⟨#[97]⟩, 1⟩
theorem ok_empty (k : Nat) : (⟨0, []⟩ : Lg).Ok k := ⟨Rise.nil, fun c h => by simp at h, fun c h => by simp at h, Int.le_refl _, Int.le_refl _, Nat.zero_le _⟩
theorem live_with : withG 3 ⟨0, []⟩ 5 [c0] = ⟨0, [c5]⟩ := by simp [withG, dropR, lastSt, Chg.at, c0, c5]
theorem live_told : toldT ⟨0, [c5]⟩ 0 0 ⟨#[]⟩ = [c5] ∧ uptoT ⟨0, [c5]⟩ 0 0 ⟨#[]⟩ = 5 ∧ errT ⟨0, [c5]⟩ 0 = 0 := by
  have e : (⟨#[]⟩ : ByteArray) = ByteArray.empty := rfl
  rw [e]
  simp [toldT, uptoT, errT, asked, fit, pickB, c5, lastSt]
  decide
theorem live_told2 : toldT ⟨0, [c5]⟩ 5 0 ⟨#[]⟩ = [] ∧ uptoT ⟨0, [c5]⟩ 5 0 ⟨#[]⟩ = 5 ∧ errT ⟨0, [c5]⟩ 5 = 0 := by
  have e : (⟨#[]⟩ : ByteArray) = ByteArray.empty := rfl
  rw [e]
  simp [toldT, uptoT, errT, asked, fit, c5, lastSt]
theorem chgs_block {w : World} {b : Nat} {c : Chg} {t : TypeId} (h : w.heap[b]? = some (.cells #[.int .i64 c.st, .string c.nm, .string c.id, .int .i64 c.kd] t (0, 0))) : ChgsAt (fun _ => True) w (some ⟨b, 0, none⟩) [c] := fun j d hj => by
  have hj0 : j = 0 := by have := (List.getElem?_eq_some_iff.1 hj).1; simp at this; omega
  subst hj0
  simp at hj
  subst hj
  refine ⟨b, 0, rfl, trivial, ?_, ?_, ?_, ?_⟩
  · rw [cell_of_row w b _ _ t (0, 0) h]; rfl
  · rw [cell_of_row w b _ _ t (0, 0) h]; rfl
  · rw [cell_of_row w b _ _ t (0, 0) h]; rfl
  · rw [cell_of_row w b _ _ t (0, 0) h]; rfl
set_option maxHeartbeats 2000000 in
set_option maxRecDepth 100000 in
theorem live_any (w : World) : Calls Try.prog 8 #[] w fun e w' => e = .returned (.bool true) ∧ Below w.heap.size w w' := by
  have hnew := hid_of (new_any 3 w (by decide) (by decide))
  have hnum := hid_of (num_any 0)
  obtain ⟨W1, hW1⟩ : ∃ W1, Hid (w.alloc (newLog 3) = W1) := ⟨_, rfl⟩
  have hL1 := newLog_at 3 w
  rw [hW1.out] at hnew hL1
  have hB1 : Below w.heap.size w W1 := by rw [← hW1.out]; exact (Below.refl _ w).alloc (Nat.le_refl _) _
  obtain ⟨W2, hW2⟩ : ∃ W2, Hid (W1.alloc (.cells #[.int .i64 0, .string ⟨#[99]⟩, .string ⟨#[97]⟩, .int .i64 1] 30) = W2) := ⟨_, rfl⟩
  have hB2 : Below W1.heap.size W1 W2 := by rw [← hW2.out]; exact (Below.refl _ W1).alloc (Nat.le_refl _) _
  have hC2 : ChgsAt (fun _ => True) W2 (some ⟨W1.heap.size, 0, none⟩) [c0] := chgs_block (by rw [← hW2.out]; exact heap_alloc_new W1 _)
  have hL2 := hL1.below hB2
  have hwith := hid_of (with_any (k := 3) hL2 (ok_empty 3) (by decide) (by decide) 5 (some ⟨W1.heap.size, 0, none⟩) [c0] 1 hC2 (by decide) (by decide))
  rw [live_with] at hwith
  have hB02 : Below w.heap.size w W2 := hB1.trans (hB2.mono hB1.size)
  replace hB02 := hid_of hB02
  have hLn := hid_of (fun W (hb : Below W2.heap.size W2 W) => size_any (hL2.below hb))
  clear hB1 hB2 hC2 hL1 hL2 hW1
  go_enter Try.func8, Try.ntmps8
  go_wp2_with fail
  refine hnew.out.mono ?_
  rintro e Z ⟨rfl, hZ⟩
  obtain rfl : W1 = Z := hZ.symm
  clear hZ hnew
  go_wp2_with fail
  refine (hnum.out _).mono ?_
  rintro e Z ⟨rfl, hZ⟩
  obtain rfl : W1 = Z := hZ.symm
  clear hZ
  go_wp2_with (rw [hW2.out])
  refine hwith.out.mono ?_
  rintro e W3 ⟨hB3, p, a, cap, rfl, hL3⟩
  clear hwith
  have hok : (⟨0, [c5]⟩ : Lg).Ok 3 := by rw [← live_with]; exact withG_ok (ok_empty 3) (by decide)
  have hbd : ∀ c ∈ [c5], c.st ≤ 9223372036854775807 := fun c hc => by simp at hc; subst hc; decide
  have ha1 := hid_of (after_any hL3 hok (by decide) hbd 0 0 ⟨#[]⟩)
  rw [live_told.1, live_told.2.1, live_told.2.2] at ha1
  have ha2 := hid_of (fun W (hb : Below W3.heap.size W3 W) => after_any (hL3.below hb) hok (by decide) hbd 5 0 ⟨#[]⟩)
  rw [live_told2.1, live_told2.2.1, live_told2.2.2] at ha2
  replace hB3 := hid_of hB3
  clear hL3 hok hbd
  go_wp2_with fail
  refine ha1.out.mono ?_
  rintro e W4 ⟨hB4, xa, xc, rfl, hR4⟩
  replace ha2 := hid_of (ha2.out W4 hB4)
  obtain ⟨b4, o4, rfl, -, hc4⟩ := hR4.chgs 0 c5 rfl
  have hle4 := hR4.le
  replace hB4 := hid_of hB4
  clear ha1 hR4
  go_wp2_with fail
  refine ha2.out.mono ?_
  rintro e W5 ⟨hB5, ya, yc, rfl, -⟩
  have hc5 := hc4.keep (hB5.block _ hc4.lt)
  have d0 := hc5.st
  have d1 := hc5.nm
  have d2 := hc5.id
  have d3 := hc5.kd
  simp only [c5, Nat.zero_mul, Nat.add_zero] at d0 d1 d2 d3
  have hB25 : Below W2.heap.size W2 W5 := hB3.out.trans ((hB4.out.trans (hB5.mono hB4.out.size)).mono hB3.out.size)
  have hsz := hid_of (hLn.out W5 hB25)
  have hfin : Hid (Below w.heap.size w W5) := hB02.out.trans (hB25.mono hB02.out.size)
  have hl1 : ([c5] : List Chg).length = 1 := rfl
  have hl0 : ([] : List Chg).length = 0 := rfl
  rw [hl1] at hle4
  rw [hl0]
  clear ha2 hc4 hc5 hB25 hB3 hB4 hB5 hLn hB02 hl1 hl0
  go_wp2_with fail
  refine (hnum.out _).mono ?_
  rintro e Z ⟨rfl, hZ⟩
  obtain rfl : W5 = Z := hZ.symm
  clear hZ
  go_wp2_with fail
  refine (hnum.out _).mono ?_
  rintro e Z ⟨rfl, hZ⟩
  obtain rfl : W5 = Z := hZ.symm
  clear hZ
  go_wp2_with fail
  refine hsz.out.mono ?_
  rintro e Z ⟨rfl, hZ⟩
  obtain rfl : W5 = Z := hZ.symm
  clear hZ
  go_wp2_with fail
  go_ret
  exact ⟨rfl, hfin.out⟩
end Go.Proofs.Ytpdcinicnekeoaa
