import Derived.Test.YtccfpbnkeaoicaaDoorI6
import Derived.Lib.IndexLaws
/-! ident: strings.Cut at a slash; Join, Part. -/
namespace Go.Proofs.YtccfpbnkeaoicaaDoor
open Go Go.RowKit
theorem toList_beq (a b : ByteArray) : (a.toList == b.toList) = decide (a = b) := by
  rw [Bool.eq_iff_iff, beq_iff_eq, decide_eq_true_eq, ByteArray.toList_eq, ByteArray.toList_eq]
  exact ⟨fun h => ByteArray.ext (Array.toList_inj.1 h), fun h => by rw [h]⟩
def slashI (s : ByteArray) : Int := Lib.indexByte s.data.toList 47
def cutT (s : ByteArray) : ByteArray × ByteArray × Bool := if slashI s < 0 then (s, ⟨#[]⟩, false) else (s.extract 0 (slashI s).toNat, s.extract ((slashI s).toNat + 1) s.size, true)
theorem slash_ge (s : ByteArray) : -1 ≤ slashI s := Lib.indexByte_ge s.data.toList 47
theorem slash_at {s : ByteArray} {o : Nat} (h : slashI s = o) : o < s.size ∧ byteAt s o = 47 ∧ ∀ j, j < o → byteAt s j ≠ 47 := by
  obtain ⟨h1, h2⟩ := Lib.indexByte_some h
  have hlt : o < s.size := by
    have := (List.getElem?_eq_some_iff.1 h1).1
    simpa using this
  rw [toList_at hlt] at h1
  exact ⟨hlt, by simpa using h1, fun j hj e => h2 j hj (by rw [toList_at (by omega), e])⟩
set_option maxHeartbeats 1000000 in
theorem litecut_any (s : ByteArray) (hs : s.size ≤ 9223372036854775806) (w : World) : Calls Tryd.prog 45 #[.string s, .string ⟨#[47]⟩] w fun e w' =>
    e = .returned (.tuple #[.string (cutT s).1, .string (cutT s).2.1, .bool (cutT s).2.2]) ∧ ∃ q, w' = w.drewN q := by
  have hge := slash_ge s
  have hI := hid_of (Tryd.stringslite_Index_one s 47)
  rw [← slashI] at hI
  by_cases h : slashI s = -1
  · have e : cutT s = (s, ⟨#[]⟩, false) := by unfold cutT; rw [if_pos (by omega)]
    rw [e]
    rw [h] at hI
    clear hge h e
    go_enter Tryd.func45, Tryd.ntmps45
    go_wp2_with (go_at_call 48; refine (hI.out _).mono ?_; rintro e w' ⟨rfl, rfl⟩)
    go_ret3
    exact ⟨rfl, 0, rfl⟩
  · obtain ⟨o, ho⟩ := Int.eq_ofNat_of_zero_le (show 0 ≤ slashI s by omega)
    obtain ⟨h1, h2, h3⟩ := slash_at ho
    have e : cutT s = (s.extract 0 o, s.extract (o + 1) s.size, true) := by unfold cutT; rw [if_neg (by omega), ho]; rfl
    rw [e]
    rw [ho] at hI
    clear hge h e ho h2 h3
    go_enter Tryd.func45, Tryd.ntmps45
    go_wp2_with (go_at_call 48; refine (hI.out _).mono ?_; rintro e w' ⟨rfl, rfl⟩)
    go_region
    go_wp2
    go_ret3
    exact ⟨by simp, 1, rfl⟩
set_option maxHeartbeats 1000000 in
theorem cut_any (s : ByteArray) (hs : s.size ≤ 9223372036854775806) (w : World) : Calls Tryd.prog 42 #[.string s, .string ⟨#[47]⟩] w fun e w' =>
    e = .returned (.tuple #[.string (cutT s).1, .string (cutT s).2.1, .bool (cutT s).2.2]) ∧ ∃ q, w' = w.drewN q := by
  go_enter Tryd.func42, Tryd.ntmps42
  go_wp2_with (go_at_call 45; refine (litecut_any s hs _).mono ?_; rintro e w' ⟨rfl, q, rfl⟩)
  go_ret3
  exact ⟨rfl, q, rfl⟩
def partOk (s : ByteArray) : Bool := (cutT s).2.2 && nameOk (cutT s).1 && idOk (cutT s).2.1
def partIn (s : ByteArray) : ByteArray := if partOk s then (cutT s).1 else ⟨#[]⟩
def partId (s : ByteArray) : ByteArray := if partOk s then (cutT s).2.1 else ⟨#[]⟩
theorem cut_sizes (s : ByteArray) : (cutT s).1.size ≤ s.size ∧ (cutT s).2.1.size ≤ s.size := by
  unfold cutT
  split
  · exact ⟨Nat.le_refl _, Nat.zero_le _⟩
  · constructor
    · simp [ByteArray.size_extract]; omega
    · simp [ByteArray.size_extract]
set_option maxHeartbeats 1000000 in
theorem part_any (s : ByteArray) (hs : s.size ≤ 9223372036854775806) (w : World) : Calls Tryd.prog 32 #[.string s] w fun e w' =>
    e = .returned (.tuple #[.string (partIn s), .string (partId s), .bool (partOk s)]) ∧ ∃ q, w' = w.drewN q := by
  have hz := cut_sizes s
  have h1 := hid_of (cut_any s hs w)
  have h2 := hid_of (fun w => name_any (cutT s).1 (by omega) w)
  have h3 := hid_of (fun w => id_any (cutT s).2.1 (by omega) w)
  have e1 : Hid (partOk s = ((cutT s).2.2 && nameOk (cutT s).1 && idOk (cutT s).2.1)) := rfl
  have e2 : Hid (partIn s = if partOk s then (cutT s).1 else ⟨#[]⟩) := rfl
  have e3 : Hid (partId s = if partOk s then (cutT s).2.1 else ⟨#[]⟩) := rfl
  clear hz
  generalize (cutT s).1 = A at *
  generalize (cutT s).2.1 = B at *
  generalize (cutT s).2.2 = C at *
  generalize nameOk A = D at *
  generalize idOk B = E at *
  go_enter Tryd.func32, Tryd.ntmps32
  go_wp2_with fail
  refine h1.out.mono ?_
  rintro e w1 ⟨rfl, q, rfl⟩
  clear h1
  cases C
  · have e1' : partOk s = false := by rw [e1.out]; rfl
    have e2' : partIn s = ⟨#[]⟩ := by rw [e2.out, e1']; rfl
    have e3' : partId s = ⟨#[]⟩ := by rw [e3.out, e1']; rfl
    go_wp2_with fail
    go_ret3
    exact ⟨by rw [e1', e2', e3']; rfl, q, rfl⟩
  · go_wp2_with fail
    refine (h2.out _).mono ?_
    rintro e w' ⟨rfl, rfl⟩
    cases D
    · have e1' : partOk s = false := by rw [e1.out]; rfl
      have e2' : partIn s = ⟨#[]⟩ := by rw [e2.out, e1']; rfl
      have e3' : partId s = ⟨#[]⟩ := by rw [e3.out, e1']; rfl
      go_wp2_with fail
      go_ret3
      exact ⟨by rw [e1', e2', e3']; rfl, q, rfl⟩
    · go_wp2_with fail
      refine (h3.out _).mono ?_
      rintro e w' ⟨rfl, rfl⟩
      cases E
      · have e1' : partOk s = false := by rw [e1.out]; rfl
        have e2' : partIn s = ⟨#[]⟩ := by rw [e2.out, e1']; rfl
        have e3' : partId s = ⟨#[]⟩ := by rw [e3.out, e1']; rfl
        go_wp2_with fail
        go_ret3
        exact ⟨by rw [e1', e2', e3']; rfl, q, rfl⟩
      · have e1' : partOk s = true := by rw [e1.out]; rfl
        have e2' : partIn s = A := by rw [e2.out, e1']; rfl
        have e3' : partId s = B := by rw [e3.out, e1']; rfl
        go_wp2_with fail
        go_ret3
        exact ⟨by rw [e1', e2', e3']; rfl, q, rfl⟩
def joinT (a b : ByteArray) : ByteArray := a ++ ⟨#[47]⟩ ++ b
theorem join_any (a b : ByteArray) (ha : a.size ≤ 140737488355328) (hb : b.size ≤ 140737488355328) (w : World) : Calls Tryd.prog 31 #[.string a, .string b] w fun e w' => e = .returned (.string (joinT a b)) ∧ w' = w := by
  go_enter Tryd.func31, Tryd.ntmps31
  go_wp2_with fail
  go_ret
  exact ⟨rfl, rfl⟩
end Go.Proofs.YtccfpbnkeaoicaaDoor
