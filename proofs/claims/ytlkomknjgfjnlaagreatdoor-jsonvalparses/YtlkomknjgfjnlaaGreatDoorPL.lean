import Derived.Test.YtlkomknjgfjnlaaGreatDoorPB
/-! The document's reader of texts: is a name among some? -/
namespace Go.Proofs.YtlkomknjgfjnlaaGreatDoor.Tree
open Go Go.RowKit

theorem hasName_at {l : List ByteArray} {s u : ByteArray} {i : Nat} (h : l[i]? = some u) : hasName (l.drop i) s = (decide (u.data = s.data) || hasName (l.drop (i + 1)) s) := by
  obtain ⟨hi, rfl⟩ := List.getElem?_eq_some_iff.1 h
  unfold hasName
  rw [List.drop_eq_getElem_cons hi, List.any_cons]
theorem data_same (a b : ByteArray) : decide (a.data = b.data) = (a.toList == b.toList) := by
  rw [str_same]
  congr 1
  rw [eq_iff_iff]
  exact ⟨fun h => ByteArray.ext h, fun h => by rw [h]⟩
set_option maxHeartbeats 2000000 in
theorem has_code (v : Value) (l : List ByteArray) (s : ByteArray) (w : World) (hR : Hid (Reads w v l)) :
    Calls Tryz.prog 48 #[v, .string s] w fun x w' => x = .returned (.bool (hasName l s)) ∧ ∃ q, w' = w.drewN q := by
  obtain ⟨B, hB⟩ : ∃ B, Hid (hasName l s = B) := ⟨_, hid_e rfl⟩
  rw [hB.out]
  obtain ⟨a, c, rfl, hc, hrd⟩ := hR.out
  clear hR
  obtain ⟨n, hn⟩ : ∃ n, Hid (l.length = n) := ⟨_, hid_e rfl⟩
  rw [hn.out] at hc ⊢
  replace hrd := hid_e hrd
  go_enter Tryz.func48, Tryz.ntmps48
  go_wp2_with fail
  go_loopw [5] (fun iv wr => ∃ i : Nat, i ≤ n ∧ iv = .int .i64 i ∧ Hid (hasName (l.drop i) s = B) ∧ Hid (∃ q, wr = w.drewN q)) (fun iv _ => n - (intOf iv).toNat)
  case atStart => exact ⟨0, Nat.zero_le _, rfl, hB, hid_e ⟨0, rfl⟩⟩
  case round =>
    obtain ⟨i, hi, rfl, hK, hq⟩ := hrel
    obtain ⟨q, rfl⟩ := hq.out
    by_cases hlt : i < n
    · have i1 : (i : Int) < (n : Int) := by omega
      have i2 : (0 : Int) ≤ (i : Int) := by omega
      obtain ⟨u, hu⟩ : ∃ u, Hid (l[i]? = some u) := ⟨_, hid_e (List.getElem?_eq_getElem (by rw [hn.out]; exact hlt))⟩
      obtain ⟨b, o, rfl, -, hrd'⟩ := hrd.out.resolve_left (by intro e; have := hn.out; rw [e] at this; simp at this; omega)
      have nc : (w.drewN q).cell? ⟨b, o + i, none⟩ = some (.string u) := hrd' i u hu.out
      clear hrd' hrd
      have hst := hid_e (hasName_at (s := s) hu.out)
      cases hs : (u.toList == s.toList) with
      | true =>
        have hBe : Hid (B = true) := by rw [Hid, ← hK.out, hst.out, data_same, hs]; rfl
        go_wp2_with fail
        go_ret
        rw [hBe.out]
        exact ⟨rfl, q, rfl⟩
      | false =>
        have hK' : Hid (hasName (l.drop (i + 1)) s = B) := by rw [Hid, ← hK.out, hst.out, data_same, hs]; rfl
        go_wp2_with fail
        exact ⟨⟨i + 1, by omega, by go_num, hK', hid_e ⟨q, rfl⟩⟩, by simp [intOf]; omega⟩
    · have i1 : ¬ (i : Int) < (n : Int) := by omega
      have hBe : Hid (B = false) := by rw [Hid, ← hK.out, List.drop_eq_nil_of_le (by rw [hn.out]; omega)]; rfl
      go_wp2_with fail
      go_ret
      rw [hBe.out]
      exact ⟨rfl, q, rfl⟩
end Go.Proofs.YtlkomknjgfjnlaaGreatDoor.Tree
