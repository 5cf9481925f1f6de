import Derived.Test.YtlkomknjgfjnlaaGreatDoorPB
/-! The document's reader of texts: commas, brackets with nothing between. -/
namespace Go.Proofs.YtlkomknjgfjnlaaGreatDoor.Tree
open Go Go.RowKit

theorem skipTo_in (T : ByteArray) : (f n : Nat) → n ≤ T.size → n ≤ skipTo T f n ∧ skipTo T f n ≤ T.size
  | 0, n, h => ⟨Nat.le_refl _, h⟩
  | f + 1, n, h => by
    unfold skipTo
    split
    · rename_i hc
      have := skipTo_in T f (n + 1) hc.1
      omega
    · exact ⟨Nat.le_refl _, h⟩
theorem skip_le {T : ByteArray} {n : Nat} (h : n ≤ T.size) : skip T n ≤ T.size := (skipTo_in T _ n h).2
theorem le_skip {T : ByteArray} {n : Nat} (h : n ≤ T.size) : n ≤ skip T n := (skipTo_in T _ n h).1
def commaB (T : ByteArray) (q : Nat) : Bool := decide (skip T q < T.size) && byteAt T (skip T q) == 44
def commaR (T : ByteArray) (c : UInt8) (q : Nat) : Res Unit :=
  if skip T q < T.size then
    if byteAt T (skip T q) = 44 ∨ byteAt T (skip T q) = c then .ok () (skip T (skip T q + 1)) else .bad 10 (skip T q)
  else .bad 3 T.size
def emptyB (T : ByteArray) (c : UInt8) (n : Nat) : Bool := !decide (skip T (n + 1) < T.size) || byteAt T (skip T (n + 1)) == c
def emptyR (T : ByteArray) (c : UInt8) (n : Nat) : Res Unit :=
  if skip T (n + 1) < T.size then
    if byteAt T (skip T (n + 1)) = c then .ok () (skip T (n + 1) + 1) else .ok () (skip T (n + 1))
  else .bad 3 T.size
set_option maxHeartbeats 2000000 in
theorem comma_dead (r : Nat) (T : ByteArray) (c : UInt8) (q pl e : Int) (w : World) (h : RT w r T q e pl) (he : e ≠ 0) :
    Calls Tryz.prog 47 #[.pointer (some ⟨r, 0, none⟩), .int .u8 (c.toNat : Int)] w fun x w' => x = .returned (.bool false) ∧ RT w' r T q e pl ∧ Fr (· = r) w w' := by
  have hbl := hid_e (blanks_dead r T q pl e w h he)
  go_enter Tryz.func47, Tryz.ntmps47
  go_wp2_with fail
  go_fit hbl.out
  clear hbl
  rintro e1 w1 ⟨rfl, hS1, hF1⟩
  have hn := hid_e (next_dead r T q pl e w1 hS1 he)
  go_wp2_with fail
  go_fit hn.out
  clear hn
  rintro e1 w2 ⟨rfl, rfl⟩
  go_wp2_with fail
  go_ret
  exact ⟨rfl, hS1, hF1⟩
set_option maxHeartbeats 4000000 in
theorem comma_code (r : Nat) (T : ByteArray) (c : UInt8) (q : Nat) (w : World) (hT : T.size ≤ 65536) (h : Hid (RT w r T (q : Int) 0 0)) (hq : q ≤ T.size) :
    Calls Tryz.prog 47 #[.pointer (some ⟨r, 0, none⟩), .int .u8 (c.toNat : Int)] w fun x w' => x = .returned (.bool (commaB T q)) ∧ RSt w' r T (commaR T c q) ∧ Fr (· = r) w w' := by
  obtain ⟨B, hB⟩ : ∃ B, Hid (commaB T q = B) := ⟨_, hid_e rfl⟩
  obtain ⟨R, hR⟩ : ∃ R, Hid (commaR T c q = R) := ⟨_, hid_e rfl⟩
  rw [hB.out, hR.out]
  have hbl := hid_e (blanks_code r T q w hT h.out hq)
  obtain ⟨s, hs⟩ : ∃ s, Hid (skip T q = s) := ⟨_, hid_e rfl⟩
  have hs1 : s ≤ T.size := by rw [← hs.out]; exact skip_le hq
  rw [hs.out] at hbl
  obtain ⟨cz, hcz⟩ : ∃ z : Int, Hid ((c.toNat : Int) = z) := ⟨_, hid_e rfl⟩
  rw [hcz.out]
  go_enter Tryz.func47, Tryz.ntmps47
  go_wp2_with fail
  go_fit hbl.out
  clear hbl h
  rintro e1 w1 ⟨rfl, hS1, hF1⟩
  by_cases hlt : s < T.size
  rotate_left
  · have e1 : s = T.size := by omega
    have hRe : Hid (R = .bad 3 T.size) := by rw [Hid, ← hR.out]; unfold commaR; rw [hs.out, if_neg hlt]
    have hBe : Hid (B = false) := by rw [Hid, ← hB.out]; unfold commaB; rw [hs.out, decide_eq_false hlt]; rfl
    have hn := hid_e (next_short r T w1 (by rw [← e1]; exact hS1))
    replace e1 := hid_e e1
    go_wp2_with fail
    go_fit hn.out
    clear hn
    rintro e1 w2 ⟨rfl, hS2, hF2⟩
    go_wp2_with fail
    go_ret
    rw [hRe.out, hBe.out]
    exact ⟨rfl, ⟨by decide, _, hS2⟩, hF1.trans hF2⟩
  have hn := hid_e (next_byte r T s w1 hS1 hlt)
  go_wp2_with fail
  go_fit hn.out
  clear hn
  rintro e1 w2 ⟨rfl, hS2, hF2⟩
  have hF12 := hF1.trans hF2
  clear hF1 hF2 hS1
  obtain ⟨z, hz⟩ : ∃ z : Int, Hid (((byteAt T s).toNat : Int) = z) := ⟨_, hid_e rfl⟩
  rw [hz.out]
  obtain ⟨y0, y1, y2, y3, yf⟩ := hS2.cells
  have yf1 := yf 1
  clear yf
  have hs9 : (s : Int) ≤ 70000 := by omega
  have hs0 : (0 : Int) ≤ (s : Int) := by omega
  by_cases hok : byteAt T s = 44 ∨ byteAt T s = c
  · have hRe : Hid (R = .ok () (skip T (s + 1))) := by rw [Hid, ← hR.out]; unfold commaR; rw [hs.out, if_pos hlt, if_pos hok]
    have hW : RT (w2.setCell ⟨r, 1, none⟩ (.int .i64 ((s : Int) + 1))) r T ((s + 1 : Nat) : Int) 0 0 := hS2.set1 ((s : Int) + 1)
    have hFW : Fr (· = r) w (w2.setCell ⟨r, 1, none⟩ (.int .i64 ((s : Int) + 1))) := hF12.set _ _ (.inl rfl)
    have hb2 := hid_e (blanks_code r T (s + 1) _ hT hW (by omega))
    have hcs : ((z == 44) = true ∧ (z != 44) = false ∧ B = true) ∨ ((z == 44) = false ∧ (z != 44) = true ∧ (z != cz) = false ∧ B = false) := by
      by_cases h44 : byteAt T s = 44
      · refine .inl ?_
        rw [← hz.out, h44, ← hB.out]
        unfold commaB
        rw [hs.out, h44, decide_eq_true hlt]
        decide
      · have hc := hok.resolve_left h44
        have h1 := byte_ne h44
        refine .inr ⟨?_, ?_, ?_, ?_⟩
        · rw [← hz.out]; exact h1
        · rw [← hz.out, bne, show (((byteAt T s).toNat : Int) == 44) = false from h1]; rfl
        · rw [← hz.out, ← hcz.out, hc]; simp
        · rw [← hB.out]
          unfold commaB
          rw [hs.out, decide_eq_true hlt]
          simpa using h44
    clear hok
    rcases hcs with ⟨c1, c2, rfl⟩ | ⟨c1, c2, c3, rfl⟩
    all_goals
      go_wp2_with fail
      go_fit hb2.out
      rintro e1 w3 ⟨rfl, hS3, hF3⟩
      go_wp2_with fail
      go_ret
      rw [hRe.out]
      exact ⟨rfl, hS3, hFW.trans hF3⟩
  · have hRe : Hid (R = .bad 10 s) := by rw [Hid, ← hR.out]; unfold commaR; rw [hs.out, if_pos hlt, if_neg hok]
    have h44 : byteAt T s ≠ 44 := fun h => hok (.inl h)
    have hc : byteAt T s ≠ c := fun h => hok (.inr h)
    have hBe : Hid (B = false) := by
      rw [Hid, ← hB.out]
      unfold commaB
      rw [hs.out, decide_eq_true hlt]
      simpa using h44
    have c1 := byte_ne h44
    have c2 := byte_ne hc
    rw [hz.out] at c1 c2
    rw [hcz.out] at c2
    have c3 : (z != 44) = true := by rw [bne, show (z == 44) = false from c1]; rfl
    have c4 : (z != cz) = true := by rw [bne, c2]; rfl
    clear c1 c2 hok h44 hc
    have hfl := hid_e (fail_code r T (s : Int) (s : Int) 10 w2 hS2)
    go_wp2_with fail
    go_fit hfl.out
    rintro e1 w3 ⟨rfl, hS3, hF3⟩
    go_wp2_with fail
    go_ret
    rw [hRe.out, hBe.out]
    exact ⟨rfl, ⟨by decide, _, hS3⟩, hF12.trans hF3⟩
set_option maxHeartbeats 4000000 in
theorem empty_code (r : Nat) (T : ByteArray) (c : UInt8) (n : Nat) (w : World) (hT : T.size ≤ 65536) (h : Hid (RT w r T (n : Int) 0 0)) (hn : n < T.size) :
    Calls Tryz.prog 46 #[.pointer (some ⟨r, 0, none⟩), .int .u8 (c.toNat : Int)] w fun x w' => x = .returned (.bool (emptyB T c n)) ∧ RSt w' r T (emptyR T c n) ∧ Fr (· = r) w w' := by
  obtain ⟨B, hB⟩ : ∃ B, Hid (emptyB T c n = B) := ⟨_, hid_e rfl⟩
  obtain ⟨R, hR⟩ : ∃ R, Hid (emptyR T c n = R) := ⟨_, hid_e rfl⟩
  rw [hB.out, hR.out]
  have hn9 : (n : Int) ≤ 70000 := by omega
  have hn0 : (0 : Int) ≤ (n : Int) := by omega
  have hW : RT (w.setCell ⟨r, 1, none⟩ (.int .i64 ((n : Int) + 1))) r T ((n + 1 : Nat) : Int) 0 0 := h.out.set1 ((n : Int) + 1)
  have hFW : Fr (· = r) w (w.setCell ⟨r, 1, none⟩ (.int .i64 ((n : Int) + 1))) := (Fr.refl (· = r) w).set _ _ (.inl rfl)
  have hbl := hid_e (blanks_code r T (n + 1) _ hT hW (by omega))
  obtain ⟨y0, y1, y2, y3, yf⟩ := h.out.cells
  have yf1 := yf 1
  clear yf
  obtain ⟨s, hs⟩ : ∃ s, Hid (skip T (n + 1) = s) := ⟨_, hid_e rfl⟩
  have hs1 : s ≤ T.size := by rw [← hs.out]; exact skip_le (by omega)
  rw [hs.out] at hbl
  obtain ⟨cz, hcz⟩ : ∃ z : Int, Hid ((c.toNat : Int) = z) := ⟨_, hid_e rfl⟩
  rw [hcz.out]
  go_enter Tryz.func46, Tryz.ntmps46
  go_wp2_with fail
  go_fit hbl.out
  clear hbl h hW y0 y1 y2 y3 yf1
  rintro e1 w1 ⟨rfl, hS1, hF1⟩
  replace hF1 := hFW.trans hF1
  clear hFW
  by_cases hlt : s < T.size
  rotate_left
  · have e1 : s = T.size := by omega
    have hRe : Hid (R = .bad 3 T.size) := by rw [Hid, ← hR.out]; unfold emptyR; rw [hs.out, if_neg hlt]
    have hBe : Hid (B = true) := by rw [Hid, ← hB.out]; unfold emptyB; rw [hs.out, decide_eq_false hlt]; rfl
    have hn := hid_e (next_short r T w1 (by rw [← e1]; exact hS1))
    replace e1 := hid_e e1
    go_wp2_with fail
    go_fit hn.out
    clear hn
    rintro e1 w2 ⟨rfl, hS2, hF2⟩
    go_wp2_with fail
    go_ret
    rw [hRe.out, hBe.out]
    exact ⟨rfl, ⟨by decide, _, hS2⟩, hF1.trans hF2⟩
  have hn := hid_e (next_byte r T s w1 hS1 hlt)
  go_wp2_with fail
  go_fit hn.out
  clear hn
  rintro e1 w2 ⟨rfl, hS2, hF2⟩
  have hF12 := hF1.trans hF2
  clear hF1 hF2 hS1
  obtain ⟨z, hz⟩ : ∃ z : Int, Hid (((byteAt T s).toNat : Int) = z) := ⟨_, hid_e rfl⟩
  rw [hz.out]
  obtain ⟨y0, y1, y2, y3, yf⟩ := hS2.cells
  have yf1 := yf 1
  clear yf
  have hs9 : (s : Int) ≤ 70000 := by omega
  have hs0 : (0 : Int) ≤ (s : Int) := by omega
  by_cases hok : byteAt T s = c
  · have hRe : Hid (R = .ok () (s + 1)) := by rw [Hid, ← hR.out]; unfold emptyR; rw [hs.out, if_pos hlt, if_pos hok]
    have hBe : Hid (B = true) := by rw [Hid, ← hB.out]; unfold emptyB; rw [hs.out, decide_eq_true hlt, hok]; simp
    have hW : RT (w2.setCell ⟨r, 1, none⟩ (.int .i64 ((s : Int) + 1))) r T ((s + 1 : Nat) : Int) 0 0 := hS2.set1 ((s : Int) + 1)
    have hFW : Fr (· = r) w (w2.setCell ⟨r, 1, none⟩ (.int .i64 ((s : Int) + 1))) := hF12.set _ _ (.inl rfl)
    have c1 : (z == cz) = true := by rw [← hz.out, ← hcz.out, hok]; simp
    replace hW := hid_e hW
    replace hFW := hid_e hFW
    clear hok
    go_wp2_with fail
    go_ret
    rw [hRe.out, hBe.out]
    exact ⟨rfl, hW.out, hFW.out⟩
  · have hRe : Hid (R = .ok () s) := by rw [Hid, ← hR.out]; unfold emptyR; rw [hs.out, if_pos hlt, if_neg hok]
    have hBe : Hid (B = false) := by rw [Hid, ← hB.out]; unfold emptyB; rw [hs.out, decide_eq_true hlt]; simpa using hok
    have c1 := byte_ne hok
    rw [hz.out, hcz.out] at c1
    clear hok
    go_wp2_with fail
    go_ret
    rw [hRe.out, hBe.out]
    exact ⟨rfl, hS2, hF12⟩
end Go.Proofs.YtlkomknjgfjnlaaGreatDoor.Tree
