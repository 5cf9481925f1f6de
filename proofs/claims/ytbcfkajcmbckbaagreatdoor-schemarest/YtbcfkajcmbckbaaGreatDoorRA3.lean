import Derived.Test.YtbcfkajcmbckbaaGreatDoorC2
import Derived.Test.YtbcfkajcmbckbaaGreatDoorZB3
import Derived.Lib.ValidLaws
import Derived.Deep.DeepCutAuto
/-! The document's Character and Clean: a text is clean just if it is valid UTF-8. -/
namespace Go.Proofs.YtbcfkajcmbckbaaGreatDoor.Chk
open Go Go.RowKit

theorem str_beq (a b : ByteArray) : (a.toList == b.toList) = decide (a = b) := by
  rw [Bool.eq_iff_iff, beq_iff_eq, decide_eq_true_eq, ByteArray.toList_eq, ByteArray.toList_eq]
  exact ⟨fun h => ByteArray.ext (Array.toList_inj.1 h), fun h => by rw [h]⟩
theorem not_empty {s : ByteArray} (h : ¬ s.size = 0) : s.toList.isEmpty = false := by
  rw [Bool.eq_false_iff]
  intro e
  have e1 : s.toList = (⟨#[]⟩ : ByteArray).toList := by rw [List.isEmpty_iff.1 e]; rw [ByteArray.toList, ByteArray.toList.loop]; simp [ByteArray.size]
  have e2 : (s.toList == (⟨#[]⟩ : ByteArray).toList) = true := by rw [e1]; simp
  rw [str_beq] at e2
  have e3 : s = ⟨#[]⟩ := by simpa using e2
  rw [e3] at h
  exact h rfl
def byteAt (T : ByteArray) (n : Nat) : UInt8 := T.data.getD n 0
theorem byteAt_eq {T : ByteArray} {n : Nat} (h : n < T.size) : T[n] = byteAt T n := by
  have h' : n < T.data.size := h
  unfold byteAt
  rw [Array.getD_eq_getD_getElem?, Array.getElem?_eq_getElem h']
  rfl
def bt (s : ByteArray) (i : Nat) : Int := ((byteAt s i).toNat : Int)
theorem getD_bt (s : ByteArray) (i : Nat) : (((s.data.toList.getD i 0).toNat : Nat) : Int) = bt s i := by
  unfold bt byteAt
  rw [List.getD_eq_getElem?_getD, Array.getElem?_toList, Array.getD_eq_getD_getElem?]
theorem size_toList (s : ByteArray) : s.data.toList.length = s.size := by rw [Array.length_toList]; rfl
/-- The bytes behind the lead byte are as they must be. -/
def Chk (s : ByteArray) (n : Nat) (lo hi : Int) : Prop := n ≤ s.size ∧ (lo ≤ bt s 1 ∧ bt s 1 ≤ hi) ∧ (3 ≤ n → 128 ≤ bt s 2 ∧ bt s 2 ≤ 191) ∧ (4 ≤ n → 128 ≤ bt s 3 ∧ bt s 3 ≤ 191)
/-- What the lead byte asks. -/
def Lead (b n lo hi : Nat) : Prop := 128 ≤ b ∧ (n = 2 ∨ n = 3 ∨ n = 4) ∧ Lib.firstT b % 8 = n ∧ Lib.accLo (Lib.firstT b / 16) = lo ∧ Lib.accHi (Lib.firstT b / 16) = hi
theorem lead_eq {s : ByteArray} {n lo hi : Nat} (h0 : ¬ s.size = 0) (hL : Lead (byteAt s 0).toNat n lo hi) : Lib.validD s.data.toList = match Lib.checkN s.size (byteAt s 1).toNat (byteAt s 2).toNat (byteAt s 3).toNat n lo hi with | none => false | some k => Lib.validD (s.data.toList.drop k) := by
  obtain ⟨h1, h2, h3, h4, h5⟩ := hL
  have e : ∀ i, (s.data.toList.getD i 0).toNat = (byteAt s i).toNat := fun i => by
    have := getD_bt s i
    unfold bt at this
    omega
  rw [Lib.validD_lead s.data.toList (fun e => h0 (by rw [← size_toList, e]; rfl)) (by rw [e]; exact h1), e, e, e, e, h3, h4, h5, size_toList]
  cases Lib.checkN s.size (byteAt s 1).toNat (byteAt s 2).toNat (byteAt s 3).toNat n lo hi <;> rfl
theorem lead_good {s : ByteArray} {n lo hi : Nat} (h0 : ¬ s.size = 0) (hL : Lead (byteAt s 0).toNat n lo hi) (hC : Chk s n lo hi) : Lib.validD s.data.toList = Lib.validD (s.data.toList.drop n) := by
  rw [lead_eq h0 hL]
  obtain ⟨c1, c2, c3, c4⟩ := hC
  unfold bt at c2 c3 c4
  have : Lib.checkN s.size (byteAt s 1).toNat (byteAt s 2).toNat (byteAt s 3).toNat n lo hi = some n := by
    unfold Lib.checkN
    rcases hL.2.1 with rfl | rfl | rfl
    · rw [if_pos rfl, if_neg (by omega)]
    · have := c3 (by omega)
      rw [if_neg (by omega), if_pos rfl, if_neg (by omega)]
    · have := c3 (by omega)
      have := c4 (by omega)
      rw [if_neg (by omega), if_neg (by omega), if_pos rfl, if_neg (by omega)]
  rw [this]
theorem lead_bad {s : ByteArray} {n lo hi : Nat} (h0 : ¬ s.size = 0) (hL : Lead (byteAt s 0).toNat n lo hi) (hC : ¬ Chk s n lo hi) : Lib.validD s.data.toList = false := by
  rw [lead_eq h0 hL]
  have : Lib.checkN s.size (byteAt s 1).toNat (byteAt s 2).toNat (byteAt s 3).toNat n lo hi = none := by
    unfold Lib.checkN
    unfold Chk bt at hC
    rcases hL.2.1 with rfl | rfl | rfl
    · rw [if_pos rfl, if_pos ?_]
      by_cases g : s.size < 2 ∨ (byteAt s 1).toNat < lo ∨ hi < (byteAt s 1).toNat
      · exact g
      · exact absurd ⟨by omega, ⟨by omega, by omega⟩, fun h => absurd h (by decide), fun h => absurd h (by decide)⟩ hC
    · rw [if_neg (by omega), if_pos rfl, if_pos ?_]
      by_cases g : s.size < 3 ∨ (byteAt s 1).toNat < lo ∨ hi < (byteAt s 1).toNat ∨ (byteAt s 2).toNat < 128 ∨ 191 < (byteAt s 2).toNat
      · exact g
      · exact absurd ⟨by omega, ⟨by omega, by omega⟩, fun _ => ⟨by omega, by omega⟩, fun h => absurd h (by decide)⟩ hC
    · rw [if_neg (by omega), if_neg (by omega), if_pos rfl, if_pos ?_]
      by_cases g : s.size < 4 ∨ (byteAt s 1).toNat < lo ∨ hi < (byteAt s 1).toNat ∨ (byteAt s 2).toNat < 128 ∨ 191 < (byteAt s 2).toNat ∨ (byteAt s 3).toNat < 128 ∨ 191 < (byteAt s 3).toNat
      · exact g
      · exact absurd ⟨by omega, ⟨by omega, by omega⟩, fun _ => ⟨by omega, by omega⟩, fun _ => ⟨by omega, by omega⟩⟩ hC
  rw [this]
theorem lead_none {s : ByteArray} (h0 : ¬ s.size = 0) (h : (128 ≤ (byteAt s 0).toNat ∧ (byteAt s 0).toNat < 194) ∨ 245 ≤ (byteAt s 0).toNat) : Lib.validD s.data.toList = false := by
  have e : ∀ i, (s.data.toList.getD i 0).toNat = (byteAt s i).toNat := fun i => by
    have := getD_bt s i
    unfold bt at this
    omega
  rw [Lib.validD_lead s.data.toList (fun e => h0 (by rw [← size_toList, e]; rfl)) (by rw [e]; omega)]
  have e0 := e 0
  have : Lib.firstT (byteAt s 0).toNat = 241 := by
    unfold Lib.firstT
    repeat' split
    all_goals first | rfl | omega
  rw [e0, this]
  rfl
theorem ascii_good {s : ByteArray} (h0 : ¬ s.size = 0) (h : (byteAt s 0).toNat < 128) : Lib.validD s.data.toList = Lib.validD (s.data.toList.drop 1) := by
  have e := getD_bt s 0
  unfold bt at e
  cases hl : s.data.toList with
  | nil => exact absurd (by rw [← size_toList, hl]; rfl) h0
  | cons b t =>
    rw [hl] at e
    rw [List.drop_succ_cons, List.drop_zero]
    exact Lib.validD_cons b t (by simp at e; omega)

/-- What Character tells: no character, or how many bytes it has. -/
def CharPost (s : ByteArray) (e : Ending) : Prop := ∃ z : Int, e = .returned (.int .i64 z) ∧ z ≤ s.size ∧ ((z ≤ 0 ∧ Lib.validD s.data.toList = false) ∨ (0 < z ∧ Lib.validD s.data.toList = Lib.validD (s.data.toList.drop z.toNat)))
theorem char_bad {s : ByteArray} {z : Int} (hz : z ≤ 0) (h : Lib.validD s.data.toList = false) : CharPost s (.returned (.int .i64 z)) := ⟨z, rfl, by omega, .inl ⟨hz, h⟩⟩
theorem char_good {s : ByteArray} {n : Nat} (hn : 0 < n) (hs : n ≤ s.size) (h : Lib.validD s.data.toList = Lib.validD (s.data.toList.drop n)) : CharPost s (.returned (.int .i64 (n : Int))) := ⟨n, rfl, by omega, .inr ⟨by omega, by simpa using h⟩⟩
/-- What the loop has seen so far. -/
def Sofar (s : ByteArray) (lo hi : Int) (q : Nat) : Prop := (1 < q → lo ≤ bt s 1 ∧ bt s 1 ≤ hi) ∧ (2 < q → 128 ≤ bt s 2 ∧ bt s 2 ≤ 191) ∧ (3 < q → 128 ≤ bt s 3 ∧ bt s 3 ≤ 191)
theorem sofar_one (s : ByteArray) (lo hi : Int) : Sofar s lo hi 1 := ⟨fun h => absurd h (by decide), fun h => absurd h (by decide), fun h => absurd h (by decide)⟩
theorem sofar_next {s : ByteArray} {lo hi l h d : Int} {q : Nat} (hS : Sofar s lo hi q) (h1 : q = 1 → l = lo ∧ h = hi) (h2 : q ≠ 1 → l = 128 ∧ h = 191) (hq : 1 ≤ q ∧ q ≤ 3) (hd : bt s q = d) (g1 : ¬ d < l) (g2 : ¬ h < d) : Sofar s lo hi (q + 1) := by
  subst hd
  obtain ⟨s1, s2, s3⟩ := hS
  have : q = 1 ∨ q = 2 ∨ q = 3 := by omega
  rcases this with rfl | rfl | rfl
  · obtain ⟨rfl, rfl⟩ := h1 rfl
    exact ⟨fun _ => ⟨by omega, by omega⟩, fun h => absurd h (by decide), fun h => absurd h (by decide)⟩
  · obtain ⟨rfl, rfl⟩ := h2 (by decide)
    exact ⟨fun _ => s1 (by decide), fun _ => ⟨by omega, by omega⟩, fun h => absurd h (by decide)⟩
  · obtain ⟨rfl, rfl⟩ := h2 (by decide)
    exact ⟨fun _ => s1 (by decide), fun _ => s2 (by decide), fun _ => ⟨by omega, by omega⟩⟩
theorem not_chk {s : ByteArray} {n : Nat} {lo hi l h d : Int} {q : Nat} (h1 : q = 1 → l = lo ∧ h = hi) (h2 : q ≠ 1 → l = 128 ∧ h = 191) (hq : 1 ≤ q ∧ q < n) (hn : n ≤ 4) (hd : bt s q = d) (g : d < l ∨ h < d) : ¬ Chk s n lo hi := by
  subst hd
  rintro ⟨c1, c2, c3, c4⟩
  have : q = 1 ∨ q = 2 ∨ q = 3 := by omega
  rcases this with rfl | rfl | rfl
  · obtain ⟨rfl, rfl⟩ := h1 rfl
    omega
  · obtain ⟨rfl, rfl⟩ := h2 (by decide)
    have := c3 (by omega)
    omega
  · obtain ⟨rfl, rfl⟩ := h2 (by decide)
    have := c4 (by omega)
    omega
theorem chk_all {s : ByteArray} {n : Nat} {lo hi : Int} (hS : Sofar s lo hi n) (hn : 2 ≤ n) (hs : n ≤ s.size) : Chk s n lo hi :=
  ⟨hs, hS.1 (by omega), fun h => hS.2.1 (by omega), fun h => hS.2.2 (by omega)⟩

set_option maxHeartbeats 4000000 in
set_option maxRecDepth 100000 in
theorem character_code (s : ByteArray) (h0 : ¬ s.size = 0) (hs : s.size ≤ 9223372036854775806) (w : World) : Calls Tryz.prog 64 #[.string s] w fun e w' => CharPost s e ∧ w' = w := by
  have hne := not_empty h0
  have H0 := hid_e h0
  have e0 := byteAt_eq (show 0 < s.size by omega)
  have hs1 : (1 : Int) ≤ s.size := by omega
  obtain ⟨c, hc⟩ : ∃ c : Int, Hid (((byteAt s 0).toNat : Int) = c) := ⟨_, hid_e rfl⟩
  have hc0 : 0 ≤ c := by rw [← hc.out]; omega
  have hc1 : c ≤ 255 := by rw [← hc.out]; have := (byteAt s 0).toNat_lt; omega
  by_cases r1 : c < 128
  · have hv := hid_e (ascii_good H0.out (by have := hc.out; omega))
    go_enter Tryz.func64, Tryz.ntmps64
    go_wp2_with (rw [hc.out])
    go_ret
    exact ⟨char_good (n := 1) (by decide) (by omega) hv.out, rfl⟩
  by_cases r2 : 194 ≤ c
  rotate_left
  · have r3 : ¬ 224 ≤ c := by omega
    have r4 : ¬ 240 ≤ c := by omega
    have hv := hid_e (lead_none H0.out (by have := hc.out; omega))
    go_enter Tryz.func64, Tryz.ntmps64
    go_wp2_with (rw [hc.out])
    go_ret
    exact ⟨char_bad (by decide) hv.out, rfl⟩
  by_cases r3 : c ≤ 223
  · skip
    have hL : Hid (Lead (byteAt s 0).toNat 2 128 191) := by
      have hcc := hc.out
      refine ⟨by omega, by decide, ?_⟩
      have hf : Lib.firstT (byteAt s 0).toNat = 2 := by
        unfold Lib.firstT
        repeat' split
        all_goals first | rfl | omega
      rw [hf]
      decide
    go_enter Tryz.func64, Tryz.ntmps64
    go_wp2_with (rw [hc.out])
    go_loopw [5, 6, 7] (fun lo hi i wr => ∃ (l h : Int) (q : Nat), lo = .int .u8 l ∧ hi = .int .u8 h ∧ i = .int .i64 q ∧ 1 ≤ q ∧ q ≤ 2 ∧ q ≤ s.size ∧ Hid (q = 1 → l = 128 ∧ h = 191) ∧ Hid (q ≠ 1 → l = 128 ∧ h = 191) ∧ Hid (Sofar s 128 191 q) ∧ wr = w) (fun _ _ i _ => 2 - (intOf i).toNat)
    case atStart => exact ⟨_, _, 1, rfl, rfl, rfl, by omega, by omega, by omega, fun _ => ⟨rfl, rfl⟩, fun h => absurd rfl h, sofar_one s _ _, rfl⟩
    case round =>
      obtain ⟨l, h, q, rfl, rfl, rfl, hq1, hq2, hq3, h1, h2, hS, rfl⟩ := hrel
      by_cases hlt : q < 2
      · have hd : decide ((q : Int) < 2) = true := by simp; omega
        by_cases hend : q = s.size
        · have hb : ((q : Int) == (s.size : Int)) = true := by simp; omega
          have hv := hid_e (lead_bad H0.out hL.out (fun hC => by have := hC.1; omega))
          go_wp2
          go_ret
          exact ⟨char_bad (by decide) hv.out, rfl⟩
        · have hb : ((q : Int) == (s.size : Int)) = false := by simp; omega
          have hql : q < s.size := by omega
          have he := byteAt_eq hql
          obtain ⟨d, hd'⟩ : ∃ d : Int, Hid (((byteAt s q).toNat : Int) = d) := ⟨_, hid_e rfl⟩
          by_cases g1 : d < l
          · have hv := hid_e (lead_bad H0.out hL.out (not_chk h1.out h2.out ⟨hq1, hlt⟩ (by decide) hd'.out (.inl g1)))
            go_wp2_with (rw [hd'.out])
            go_ret
            exact ⟨char_bad (by decide) hv.out, rfl⟩
          · by_cases g2 : h < d
            · have hv := hid_e (lead_bad H0.out hL.out (not_chk h1.out h2.out ⟨hq1, hlt⟩ (by decide) hd'.out (.inr g2)))
              go_wp2_with (rw [hd'.out])
              go_ret
              exact ⟨char_bad (by decide) hv.out, rfl⟩
            · have hS' := hid_e (sofar_next hS.out h1.out h2.out ⟨hq1, by omega⟩ hd'.out g1 g2)
              go_wp2_with (rw [hd'.out])
              go_roundw
              case rel => exact ⟨128, 191, q + 1, rfl, rfl, by simp, by omega, by omega, by omega, fun h => by omega, fun _ => ⟨rfl, rfl⟩, hS', trivial⟩
              case measure => simp [intOf]; omega
      · obtain rfl : q = 2 := by omega
        have hv := hid_e (lead_good H0.out hL.out (chk_all hS.out (by decide) hq3))
        go_wp2
        go_ret
        exact ⟨char_good (n := 2) (by decide) hq3 hv.out, rfl⟩
  have r4 : 224 ≤ c := by omega
  by_cases r5 : c ≤ 239
  · by_cases x224 : c = 224
    · subst x224
      have hL : Hid (Lead (byteAt s 0).toNat 3 160 191) := by
        have hcc := hc.out
        refine ⟨by omega, by decide, ?_⟩
        have hf : Lib.firstT (byteAt s 0).toNat = 19 := by
          unfold Lib.firstT
          repeat' split
          all_goals first | rfl | omega
        rw [hf]
        decide
      go_enter Tryz.func64, Tryz.ntmps64
      go_wp2_with (rw [hc.out])
      go_loopw [5, 6, 7] (fun lo hi i wr => ∃ (l h : Int) (q : Nat), lo = .int .u8 l ∧ hi = .int .u8 h ∧ i = .int .i64 q ∧ 1 ≤ q ∧ q ≤ 3 ∧ q ≤ s.size ∧ Hid (q = 1 → l = 160 ∧ h = 191) ∧ Hid (q ≠ 1 → l = 128 ∧ h = 191) ∧ Hid (Sofar s 160 191 q) ∧ wr = w) (fun _ _ i _ => 3 - (intOf i).toNat)
      case atStart => exact ⟨_, _, 1, rfl, rfl, rfl, by omega, by omega, by omega, fun _ => ⟨rfl, rfl⟩, fun h => absurd rfl h, sofar_one s _ _, rfl⟩
      case round =>
        obtain ⟨l, h, q, rfl, rfl, rfl, hq1, hq2, hq3, h1, h2, hS, rfl⟩ := hrel
        by_cases hlt : q < 3
        · have hd : decide ((q : Int) < 3) = true := by simp; omega
          by_cases hend : q = s.size
          · have hb : ((q : Int) == (s.size : Int)) = true := by simp; omega
            have hv := hid_e (lead_bad H0.out hL.out (fun hC => by have := hC.1; omega))
            go_wp2
            go_ret
            exact ⟨char_bad (by decide) hv.out, rfl⟩
          · have hb : ((q : Int) == (s.size : Int)) = false := by simp; omega
            have hql : q < s.size := by omega
            have he := byteAt_eq hql
            obtain ⟨d, hd'⟩ : ∃ d : Int, Hid (((byteAt s q).toNat : Int) = d) := ⟨_, hid_e rfl⟩
            by_cases g1 : d < l
            · have hv := hid_e (lead_bad H0.out hL.out (not_chk h1.out h2.out ⟨hq1, hlt⟩ (by decide) hd'.out (.inl g1)))
              go_wp2_with (rw [hd'.out])
              go_ret
              exact ⟨char_bad (by decide) hv.out, rfl⟩
            · by_cases g2 : h < d
              · have hv := hid_e (lead_bad H0.out hL.out (not_chk h1.out h2.out ⟨hq1, hlt⟩ (by decide) hd'.out (.inr g2)))
                go_wp2_with (rw [hd'.out])
                go_ret
                exact ⟨char_bad (by decide) hv.out, rfl⟩
              · have hS' := hid_e (sofar_next hS.out h1.out h2.out ⟨hq1, by omega⟩ hd'.out g1 g2)
                go_wp2_with (rw [hd'.out])
                go_roundw
                case rel => exact ⟨128, 191, q + 1, rfl, rfl, by simp, by omega, by omega, by omega, fun h => by omega, fun _ => ⟨rfl, rfl⟩, hS', trivial⟩
                case measure => simp [intOf]; omega
        · obtain rfl : q = 3 := by omega
          have hv := hid_e (lead_good H0.out hL.out (chk_all hS.out (by decide) hq3))
          go_wp2
          go_ret
          exact ⟨char_good (n := 3) (by decide) hq3 hv.out, rfl⟩
    have q224 : (c == 224) = false := by simpa using x224
    by_cases x237 : c = 237
    · subst x237
      have hL : Hid (Lead (byteAt s 0).toNat 3 128 159) := by
        have hcc := hc.out
        refine ⟨by omega, by decide, ?_⟩
        have hf : Lib.firstT (byteAt s 0).toNat = 35 := by
          unfold Lib.firstT
          repeat' split
          all_goals first | rfl | omega
        rw [hf]
        decide
      go_enter Tryz.func64, Tryz.ntmps64
      go_wp2_with (rw [hc.out])
      go_loopw [5, 6, 7] (fun lo hi i wr => ∃ (l h : Int) (q : Nat), lo = .int .u8 l ∧ hi = .int .u8 h ∧ i = .int .i64 q ∧ 1 ≤ q ∧ q ≤ 3 ∧ q ≤ s.size ∧ Hid (q = 1 → l = 128 ∧ h = 159) ∧ Hid (q ≠ 1 → l = 128 ∧ h = 191) ∧ Hid (Sofar s 128 159 q) ∧ wr = w) (fun _ _ i _ => 3 - (intOf i).toNat)
      case atStart => exact ⟨_, _, 1, rfl, rfl, rfl, by omega, by omega, by omega, fun _ => ⟨rfl, rfl⟩, fun h => absurd rfl h, sofar_one s _ _, rfl⟩
      case round =>
        obtain ⟨l, h, q, rfl, rfl, rfl, hq1, hq2, hq3, h1, h2, hS, rfl⟩ := hrel
        by_cases hlt : q < 3
        · have hd : decide ((q : Int) < 3) = true := by simp; omega
          by_cases hend : q = s.size
          · have hb : ((q : Int) == (s.size : Int)) = true := by simp; omega
            have hv := hid_e (lead_bad H0.out hL.out (fun hC => by have := hC.1; omega))
            go_wp2
            go_ret
            exact ⟨char_bad (by decide) hv.out, rfl⟩
          · have hb : ((q : Int) == (s.size : Int)) = false := by simp; omega
            have hql : q < s.size := by omega
            have he := byteAt_eq hql
            obtain ⟨d, hd'⟩ : ∃ d : Int, Hid (((byteAt s q).toNat : Int) = d) := ⟨_, hid_e rfl⟩
            by_cases g1 : d < l
            · have hv := hid_e (lead_bad H0.out hL.out (not_chk h1.out h2.out ⟨hq1, hlt⟩ (by decide) hd'.out (.inl g1)))
              go_wp2_with (rw [hd'.out])
              go_ret
              exact ⟨char_bad (by decide) hv.out, rfl⟩
            · by_cases g2 : h < d
              · have hv := hid_e (lead_bad H0.out hL.out (not_chk h1.out h2.out ⟨hq1, hlt⟩ (by decide) hd'.out (.inr g2)))
                go_wp2_with (rw [hd'.out])
                go_ret
                exact ⟨char_bad (by decide) hv.out, rfl⟩
              · have hS' := hid_e (sofar_next hS.out h1.out h2.out ⟨hq1, by omega⟩ hd'.out g1 g2)
                go_wp2_with (rw [hd'.out])
                go_roundw
                case rel => exact ⟨128, 191, q + 1, rfl, rfl, by simp, by omega, by omega, by omega, fun h => by omega, fun _ => ⟨rfl, rfl⟩, hS', trivial⟩
                case measure => simp [intOf]; omega
        · obtain rfl : q = 3 := by omega
          have hv := hid_e (lead_good H0.out hL.out (chk_all hS.out (by decide) hq3))
          go_wp2
          go_ret
          exact ⟨char_good (n := 3) (by decide) hq3 hv.out, rfl⟩
    have q237 : (c == 237) = false := by simpa using x237
    have hL : Hid (Lead (byteAt s 0).toNat 3 128 191) := by
      have hcc := hc.out
      refine ⟨by omega, by decide, ?_⟩
      have hf : Lib.firstT (byteAt s 0).toNat = 3 := by
        unfold Lib.firstT
        repeat' split
        all_goals first | rfl | omega
      rw [hf]
      decide
    go_enter Tryz.func64, Tryz.ntmps64
    go_wp2_with (rw [hc.out])
    go_loopw [5, 6, 7] (fun lo hi i wr => ∃ (l h : Int) (q : Nat), lo = .int .u8 l ∧ hi = .int .u8 h ∧ i = .int .i64 q ∧ 1 ≤ q ∧ q ≤ 3 ∧ q ≤ s.size ∧ Hid (q = 1 → l = 128 ∧ h = 191) ∧ Hid (q ≠ 1 → l = 128 ∧ h = 191) ∧ Hid (Sofar s 128 191 q) ∧ wr = w) (fun _ _ i _ => 3 - (intOf i).toNat)
    case atStart => exact ⟨_, _, 1, rfl, rfl, rfl, by omega, by omega, by omega, fun _ => ⟨rfl, rfl⟩, fun h => absurd rfl h, sofar_one s _ _, rfl⟩
    case round =>
      obtain ⟨l, h, q, rfl, rfl, rfl, hq1, hq2, hq3, h1, h2, hS, rfl⟩ := hrel
      by_cases hlt : q < 3
      · have hd : decide ((q : Int) < 3) = true := by simp; omega
        by_cases hend : q = s.size
        · have hb : ((q : Int) == (s.size : Int)) = true := by simp; omega
          have hv := hid_e (lead_bad H0.out hL.out (fun hC => by have := hC.1; omega))
          go_wp2
          go_ret
          exact ⟨char_bad (by decide) hv.out, rfl⟩
        · have hb : ((q : Int) == (s.size : Int)) = false := by simp; omega
          have hql : q < s.size := by omega
          have he := byteAt_eq hql
          obtain ⟨d, hd'⟩ : ∃ d : Int, Hid (((byteAt s q).toNat : Int) = d) := ⟨_, hid_e rfl⟩
          by_cases g1 : d < l
          · have hv := hid_e (lead_bad H0.out hL.out (not_chk h1.out h2.out ⟨hq1, hlt⟩ (by decide) hd'.out (.inl g1)))
            go_wp2_with (rw [hd'.out])
            go_ret
            exact ⟨char_bad (by decide) hv.out, rfl⟩
          · by_cases g2 : h < d
            · have hv := hid_e (lead_bad H0.out hL.out (not_chk h1.out h2.out ⟨hq1, hlt⟩ (by decide) hd'.out (.inr g2)))
              go_wp2_with (rw [hd'.out])
              go_ret
              exact ⟨char_bad (by decide) hv.out, rfl⟩
            · have hS' := hid_e (sofar_next hS.out h1.out h2.out ⟨hq1, by omega⟩ hd'.out g1 g2)
              go_wp2_with (rw [hd'.out])
              go_roundw
              case rel => exact ⟨128, 191, q + 1, rfl, rfl, by simp, by omega, by omega, by omega, fun h => by omega, fun _ => ⟨rfl, rfl⟩, hS', trivial⟩
              case measure => simp [intOf]; omega
      · obtain rfl : q = 3 := by omega
        have hv := hid_e (lead_good H0.out hL.out (chk_all hS.out (by decide) hq3))
        go_wp2
        go_ret
        exact ⟨char_good (n := 3) (by decide) hq3 hv.out, rfl⟩
  have r6 : 240 ≤ c := by omega
  by_cases r7 : c ≤ 244
  · by_cases x240 : c = 240
    · subst x240
      have hL : Hid (Lead (byteAt s 0).toNat 4 144 191) := by
        have hcc := hc.out
        refine ⟨by omega, by decide, ?_⟩
        have hf : Lib.firstT (byteAt s 0).toNat = 52 := by
          unfold Lib.firstT
          repeat' split
          all_goals first | rfl | omega
        rw [hf]
        decide
      go_enter Tryz.func64, Tryz.ntmps64
      go_wp2_with (rw [hc.out])
      go_loopw [5, 6, 7] (fun lo hi i wr => ∃ (l h : Int) (q : Nat), lo = .int .u8 l ∧ hi = .int .u8 h ∧ i = .int .i64 q ∧ 1 ≤ q ∧ q ≤ 4 ∧ q ≤ s.size ∧ Hid (q = 1 → l = 144 ∧ h = 191) ∧ Hid (q ≠ 1 → l = 128 ∧ h = 191) ∧ Hid (Sofar s 144 191 q) ∧ wr = w) (fun _ _ i _ => 4 - (intOf i).toNat)
      case atStart => exact ⟨_, _, 1, rfl, rfl, rfl, by omega, by omega, by omega, fun _ => ⟨rfl, rfl⟩, fun h => absurd rfl h, sofar_one s _ _, rfl⟩
      case round =>
        obtain ⟨l, h, q, rfl, rfl, rfl, hq1, hq2, hq3, h1, h2, hS, rfl⟩ := hrel
        by_cases hlt : q < 4
        · have hd : decide ((q : Int) < 4) = true := by simp; omega
          by_cases hend : q = s.size
          · have hb : ((q : Int) == (s.size : Int)) = true := by simp; omega
            have hv := hid_e (lead_bad H0.out hL.out (fun hC => by have := hC.1; omega))
            go_wp2
            go_ret
            exact ⟨char_bad (by decide) hv.out, rfl⟩
          · have hb : ((q : Int) == (s.size : Int)) = false := by simp; omega
            have hql : q < s.size := by omega
            have he := byteAt_eq hql
            obtain ⟨d, hd'⟩ : ∃ d : Int, Hid (((byteAt s q).toNat : Int) = d) := ⟨_, hid_e rfl⟩
            by_cases g1 : d < l
            · have hv := hid_e (lead_bad H0.out hL.out (not_chk h1.out h2.out ⟨hq1, hlt⟩ (by decide) hd'.out (.inl g1)))
              go_wp2_with (rw [hd'.out])
              go_ret
              exact ⟨char_bad (by decide) hv.out, rfl⟩
            · by_cases g2 : h < d
              · have hv := hid_e (lead_bad H0.out hL.out (not_chk h1.out h2.out ⟨hq1, hlt⟩ (by decide) hd'.out (.inr g2)))
                go_wp2_with (rw [hd'.out])
                go_ret
                exact ⟨char_bad (by decide) hv.out, rfl⟩
              · have hS' := hid_e (sofar_next hS.out h1.out h2.out ⟨hq1, by omega⟩ hd'.out g1 g2)
                go_wp2_with (rw [hd'.out])
                go_roundw
                case rel => exact ⟨128, 191, q + 1, rfl, rfl, by simp, by omega, by omega, by omega, fun h => by omega, fun _ => ⟨rfl, rfl⟩, hS', trivial⟩
                case measure => simp [intOf]; omega
        · obtain rfl : q = 4 := by omega
          have hv := hid_e (lead_good H0.out hL.out (chk_all hS.out (by decide) hq3))
          go_wp2
          go_ret
          exact ⟨char_good (n := 4) (by decide) hq3 hv.out, rfl⟩
    have q240 : (c == 240) = false := by simpa using x240
    by_cases x244 : c = 244
    · subst x244
      have hL : Hid (Lead (byteAt s 0).toNat 4 128 143) := by
        have hcc := hc.out
        refine ⟨by omega, by decide, ?_⟩
        have hf : Lib.firstT (byteAt s 0).toNat = 68 := by
          unfold Lib.firstT
          repeat' split
          all_goals first | rfl | omega
        rw [hf]
        decide
      go_enter Tryz.func64, Tryz.ntmps64
      go_wp2_with (rw [hc.out])
      go_loopw [5, 6, 7] (fun lo hi i wr => ∃ (l h : Int) (q : Nat), lo = .int .u8 l ∧ hi = .int .u8 h ∧ i = .int .i64 q ∧ 1 ≤ q ∧ q ≤ 4 ∧ q ≤ s.size ∧ Hid (q = 1 → l = 128 ∧ h = 143) ∧ Hid (q ≠ 1 → l = 128 ∧ h = 191) ∧ Hid (Sofar s 128 143 q) ∧ wr = w) (fun _ _ i _ => 4 - (intOf i).toNat)
      case atStart => exact ⟨_, _, 1, rfl, rfl, rfl, by omega, by omega, by omega, fun _ => ⟨rfl, rfl⟩, fun h => absurd rfl h, sofar_one s _ _, rfl⟩
      case round =>
        obtain ⟨l, h, q, rfl, rfl, rfl, hq1, hq2, hq3, h1, h2, hS, rfl⟩ := hrel
        by_cases hlt : q < 4
        · have hd : decide ((q : Int) < 4) = true := by simp; omega
          by_cases hend : q = s.size
          · have hb : ((q : Int) == (s.size : Int)) = true := by simp; omega
            have hv := hid_e (lead_bad H0.out hL.out (fun hC => by have := hC.1; omega))
            go_wp2
            go_ret
            exact ⟨char_bad (by decide) hv.out, rfl⟩
          · have hb : ((q : Int) == (s.size : Int)) = false := by simp; omega
            have hql : q < s.size := by omega
            have he := byteAt_eq hql
            obtain ⟨d, hd'⟩ : ∃ d : Int, Hid (((byteAt s q).toNat : Int) = d) := ⟨_, hid_e rfl⟩
            by_cases g1 : d < l
            · have hv := hid_e (lead_bad H0.out hL.out (not_chk h1.out h2.out ⟨hq1, hlt⟩ (by decide) hd'.out (.inl g1)))
              go_wp2_with (rw [hd'.out])
              go_ret
              exact ⟨char_bad (by decide) hv.out, rfl⟩
            · by_cases g2 : h < d
              · have hv := hid_e (lead_bad H0.out hL.out (not_chk h1.out h2.out ⟨hq1, hlt⟩ (by decide) hd'.out (.inr g2)))
                go_wp2_with (rw [hd'.out])
                go_ret
                exact ⟨char_bad (by decide) hv.out, rfl⟩
              · have hS' := hid_e (sofar_next hS.out h1.out h2.out ⟨hq1, by omega⟩ hd'.out g1 g2)
                go_wp2_with (rw [hd'.out])
                go_roundw
                case rel => exact ⟨128, 191, q + 1, rfl, rfl, by simp, by omega, by omega, by omega, fun h => by omega, fun _ => ⟨rfl, rfl⟩, hS', trivial⟩
                case measure => simp [intOf]; omega
        · obtain rfl : q = 4 := by omega
          have hv := hid_e (lead_good H0.out hL.out (chk_all hS.out (by decide) hq3))
          go_wp2
          go_ret
          exact ⟨char_good (n := 4) (by decide) hq3 hv.out, rfl⟩
    have q244 : (c == 244) = false := by simpa using x244
    have hL : Hid (Lead (byteAt s 0).toNat 4 128 191) := by
      have hcc := hc.out
      refine ⟨by omega, by decide, ?_⟩
      have hf : Lib.firstT (byteAt s 0).toNat = 4 := by
        unfold Lib.firstT
        repeat' split
        all_goals first | rfl | omega
      rw [hf]
      decide
    go_enter Tryz.func64, Tryz.ntmps64
    go_wp2_with (rw [hc.out])
    go_loopw [5, 6, 7] (fun lo hi i wr => ∃ (l h : Int) (q : Nat), lo = .int .u8 l ∧ hi = .int .u8 h ∧ i = .int .i64 q ∧ 1 ≤ q ∧ q ≤ 4 ∧ q ≤ s.size ∧ Hid (q = 1 → l = 128 ∧ h = 191) ∧ Hid (q ≠ 1 → l = 128 ∧ h = 191) ∧ Hid (Sofar s 128 191 q) ∧ wr = w) (fun _ _ i _ => 4 - (intOf i).toNat)
    case atStart => exact ⟨_, _, 1, rfl, rfl, rfl, by omega, by omega, by omega, fun _ => ⟨rfl, rfl⟩, fun h => absurd rfl h, sofar_one s _ _, rfl⟩
    case round =>
      obtain ⟨l, h, q, rfl, rfl, rfl, hq1, hq2, hq3, h1, h2, hS, rfl⟩ := hrel
      by_cases hlt : q < 4
      · have hd : decide ((q : Int) < 4) = true := by simp; omega
        by_cases hend : q = s.size
        · have hb : ((q : Int) == (s.size : Int)) = true := by simp; omega
          have hv := hid_e (lead_bad H0.out hL.out (fun hC => by have := hC.1; omega))
          go_wp2
          go_ret
          exact ⟨char_bad (by decide) hv.out, rfl⟩
        · have hb : ((q : Int) == (s.size : Int)) = false := by simp; omega
          have hql : q < s.size := by omega
          have he := byteAt_eq hql
          obtain ⟨d, hd'⟩ : ∃ d : Int, Hid (((byteAt s q).toNat : Int) = d) := ⟨_, hid_e rfl⟩
          by_cases g1 : d < l
          · have hv := hid_e (lead_bad H0.out hL.out (not_chk h1.out h2.out ⟨hq1, hlt⟩ (by decide) hd'.out (.inl g1)))
            go_wp2_with (rw [hd'.out])
            go_ret
            exact ⟨char_bad (by decide) hv.out, rfl⟩
          · by_cases g2 : h < d
            · have hv := hid_e (lead_bad H0.out hL.out (not_chk h1.out h2.out ⟨hq1, hlt⟩ (by decide) hd'.out (.inr g2)))
              go_wp2_with (rw [hd'.out])
              go_ret
              exact ⟨char_bad (by decide) hv.out, rfl⟩
            · have hS' := hid_e (sofar_next hS.out h1.out h2.out ⟨hq1, by omega⟩ hd'.out g1 g2)
              go_wp2_with (rw [hd'.out])
              go_roundw
              case rel => exact ⟨128, 191, q + 1, rfl, rfl, by simp, by omega, by omega, by omega, fun h => by omega, fun _ => ⟨rfl, rfl⟩, hS', trivial⟩
              case measure => simp [intOf]; omega
      · obtain rfl : q = 4 := by omega
        have hv := hid_e (lead_good H0.out hL.out (chk_all hS.out (by decide) hq3))
        go_wp2
        go_ret
        exact ⟨char_good (n := 4) (by decide) hq3 hv.out, rfl⟩
  have hv := hid_e (lead_none H0.out (by have := hc.out; omega))
  go_enter Tryz.func64, Tryz.ntmps64
  go_wp2_with (rw [hc.out])
  go_ret
  exact ⟨char_bad (by decide) hv.out, rfl⟩
set_option maxHeartbeats 1000000 in
set_option maxRecDepth 100000 in
theorem dclean_code (s : ByteArray) (hs : s.size ≤ 9223372036854775806) (w : World) : Calls Tryz.prog 50 #[.string s] w fun e w' => e = .returned (.bool (Lib.validD s.data.toList)) ∧ w' = w := by
  obtain ⟨R, hR⟩ : ∃ R, Hid (Lib.validD s.data.toList = R) := ⟨_, hid_e rfl⟩
  rw [hR.out]
  go_enter Tryz.func50, Tryz.ntmps50
  go_wp2
  go_loopw [0] (fun v wr => ∃ u : ByteArray, v = .string u ∧ u.size ≤ s.size ∧ Hid (Lib.validD u.data.toList = R) ∧ wr = w) (fun v _ => (match v with | .string u => u.size | _ => 0))
  case atStart => exact ⟨s, rfl, by omega, hR, rfl⟩
  case round =>
    obtain ⟨u, rfl, hu, hV, rfl⟩ := hrel
    by_cases h0 : u.size = 0
    · have hz : u = ⟨#[]⟩ := ByteArray.ext (Array.eq_empty_of_size_eq_zero h0)
      subst hz
      obtain rfl : R = true := hV.out.symm
      go_wp2
      go_ret
      exact ⟨rfl, rfl⟩
    · have hne := not_empty h0
      go_wp2_with fail
      refine (character_code u h0 (by omega) _).mono ?_
      rintro e w1 ⟨⟨z, rfl, hz1, hz2⟩, rfl⟩
      replace hz2 := hid_e hz2
      by_cases hz : z ≤ 0
      · obtain rfl : R = false := by
          rcases hz2.out with h | h
          · rw [← hV.out, h.2]
          · omega
        go_wp2
        go_ret
        exact ⟨rfl, rfl⟩
      · obtain ⟨n, rfl⟩ : ∃ n : Nat, z = n := ⟨z.toNat, by omega⟩
        have i1 : (0 : Int) ≤ (n : Int) := by omega
        have hV' : Hid (Lib.validD (u.extract n u.size).data.toList = R) := by
          rcases hz2.out with h | h
          · omega
          · rw [Hid, ← hV.out, h.2, Int.toNat_natCast]
            congr 1
            simp [ByteArray.data_extract]
            exact List.take_of_length_le (by rw [List.length_drop, size_toList]; exact Nat.le_refl _)
        go_wp2
        go_roundw
        case rel => exact ⟨_, rfl, by simp; omega, hV', trivial⟩
        case measure => simp; omega
end Go.Proofs.YtbcfkajcmbckbaaGreatDoor.Chk
/-! The document's has and plain. -/
namespace Go.Proofs.YtbcfkajcmbckbaaGreatDoor.Chk
open Go Go.RowKit

theorem k_reads_take {W : World} {a : Option Addr} {c n : Nat} {l : List ByteArray} (h : Reads W (.slice a n c) l) {q : Nat} (hq : q ≤ l.length) : Reads W (.slice a q c) (l.take q) := by
  obtain ⟨a', c', e, hc, hA⟩ := h
  cases e
  have hlen : (l.take q).length = q := by simp; omega
  refine ⟨a, c, by rw [hlen], ⟨by rw [hlen]; omega, hc.2⟩, ?_⟩
  rcases hA with h0 | ⟨b, o, h1, h2, h3⟩
  · exact .inl (by rw [h0]; simp)
  · exact .inr ⟨b, o, h1, h2, fun j s hj => h3 j s (by
      have hjl := (List.getElem?_eq_some_iff.1 hj).1
      rw [List.getElem?_take_of_lt (by omega)] at hj
      exact hj)⟩
theorem k_reads_at {w : World} {a : Option Addr} {c n : Nat} {l : List ByteArray} (h : Reads w (.slice a n c) l) {q : Nat} (hq : q < l.length) : ∃ g o, a = some ⟨g, o, none⟩ ∧ w.cell? ⟨g, o + q, none⟩ = some (.string l[q]) := by
  obtain ⟨a', c', e, hc, hA⟩ := h
  cases e
  obtain ⟨b, o, rfl, _, hA⟩ := hA.resolve_left (by intro e; subst e; simp at hq)
  exact ⟨b, o, rfl, hA q _ (List.getElem?_eq_getElem hq)⟩
theorem k_reads_n {w : World} {a : Option Addr} {c n : Nat} {l : List ByteArray} (h : Reads w (.slice a n c) l) : l.length = n := by
  obtain ⟨a', c', e, _⟩ := h
  cases e
  rfl
/-- Is the text among these? -/
def hasB (l : List ByteArray) (s : ByteArray) : Bool := l.any fun x => decide (x = s)
theorem hasB_true {l : List ByteArray} {s : ByteArray} {q : Nat} (h : l[q]? = some s) : hasB l s = true := by
  unfold hasB
  rw [List.any_eq_true]
  exact ⟨s, List.mem_of_getElem? h, by simp⟩
theorem hasB_false {l : List ByteArray} {s : ByteArray} (h : ∀ j : Nat, j < l.length → l[j]? ≠ some s) : hasB l s = false := by
  rw [Bool.eq_false_iff]
  intro e
  unfold hasB at e
  rw [List.any_eq_true] at e
  obtain ⟨x, hx, e⟩ := e
  obtain ⟨j, hj⟩ := List.mem_iff_getElem?.1 hx
  have : x = s := by simpa using e
  subst this
  exact h j (List.getElem?_eq_some_iff.1 hj).1 hj
set_option maxHeartbeats 1000000 in
set_option maxRecDepth 100000 in
theorem has_any (a : Option Addr) (n c : Nat) (l : List ByteArray) (s : ByteArray) (w : World) (hN : Hid (Reads w (.slice a n c) l)) : Calls Tryz.prog 51 #[.slice a n c, .string s] w fun e w' => e = .returned (.bool (hasB l s)) ∧ Below w.heap.size w w' := by
  have hl := hN.out.len
  have hn := k_reads_n hN.out
  subst hn
  go_enter Tryz.func51, Tryz.ntmps51
  go_wp2_with fail
  go_loopw [5] (fun i wr => ∃ q : Nat, q ≤ l.length ∧ i = .int .i64 q ∧ Below w.heap.size w wr ∧ Hid (∀ j : Nat, j < q → l[j]? ≠ some s)) (fun i _ => l.length - (intOf i).toNat)
  case atStart => exact ⟨0, Nat.zero_le _, rfl, Below.refl _ w, hid_e (fun j h => by omega)⟩
  case round =>
    obtain ⟨q, hq, rfl, HB, hno⟩ := hrel
    by_cases hlt : q < l.length
    · have hd : decide ((q : Int) < (l.length : Int)) = true := by simp; omega
      obtain ⟨g, o, rfl, c1⟩ := k_reads_at hN.out hlt
      have n1 := stay HB c1
      obtain ⟨x, hx⟩ : ∃ x, Hid (l[q] = x) := ⟨_, hid_e rfl⟩
      rw [hx.out] at n1
      have i1 : (q : Int) < (l.length : Int) := by omega
      have i2 : (0 : Int) ≤ (q : Int) := by omega
      clear c1
      by_cases he : x = s
      · subst he
        have hb : (x.toList == x.toList) = true := by simp
        have hout : Hid (hasB l x = true) := hid_e (hasB_true (q := q) (by rw [List.getElem?_eq_getElem hlt, hx.out]))
        go_wp2_with fail
        go_ret
        exact ⟨by rw [hout.out]; rfl, HB⟩
      · have hb : (x.toList == s.toList) = false := by rw [str_beq]; simpa using he
        go_wp2_with fail
        go_roundw
        case rel => exact ⟨q + 1, by omega, by simp, HB, hid_e (fun j hj => by
          by_cases ej : j = q
          · subst ej; rw [List.getElem?_eq_getElem hlt, hx.out]; simpa using he
          · exact hno.out j (by omega))⟩
        case measure => simp [intOf]; omega
    · have hd : decide ((q : Int) < (l.length : Int)) = false := by simp; omega
      have hout : Hid (hasB l s = false) := hid_e (hasB_false (fun j hj => hno.out j (by omega)))
      go_wp2_with fail
      go_ret
      exact ⟨by rw [hout.out]; rfl, HB⟩
theorem hasB_name (l : List ByteArray) (s : ByteArray) : hasB l s = hasName l s := by
  unfold hasB hasName
  congr 1
  funext t
  have : (t = s) ↔ (t.data = s.data) := ⟨fun h => by rw [h], fun h => ByteArray.ext h⟩
  exact decide_eq_decide.2 this
theorem has_code (a : Option Addr) (n c : Nat) (l : List ByteArray) (s : ByteArray) (w : World) (hN : Hid (Reads w (.slice a n c) l)) : Calls Tryz.prog 51 #[.slice a n c, .string s] w fun e w' => e = .returned (.bool (hasName l s)) ∧ Below w.heap.size w w' := by
  rw [← hasB_name]
  exact has_any a n c l s w hN
/-- What plain tells. -/
def plainB (k x : Int) (s : ByteArray) (n m : Nat) : Bool :=
  (x == 0 || k == 3) && (decide (s = ⟨#[]⟩) || k == 4) && (if (k == 6) = true then ((n : Int) == (m : Int)) else ((n : Int) == 0 && (k == 5 || (m : Int) == 0)))
set_option maxHeartbeats 2000000 in
theorem plain_code (k x : Int) (s : ByteArray) (an : Option Addr) (N cn : Nat) (ai : Option Addr) (M ci : Nat) (w : World) : Calls Tryz.prog 49 #[.agg #[.int .i64 k, .int .i64 x, .string s, .slice an N cn, .slice ai M ci]] w fun e w' => e = .returned (.bool (plainB k x s N M)) ∧ Below w.heap.size w w' := by
  have hB : ∀ o, Below w.heap.size w (w.alloc o) := fun o => (Below.refl _ _).alloc (Nat.le_refl _) _
  obtain ⟨R, hR⟩ : ∃ R, Hid (plainB k x s N M = R) := ⟨_, hid_e rfl⟩
  rw [hR.out]
  have hR' := hid_e hR.out
  unfold plainB at hR
  by_cases hs : s = ⟨#[]⟩
  · subst hs
    go_enter Tryz.func49, Tryz.ntmps49
    go_wp2_with fail
    all_goals (go_ret; exact ⟨ret_bool (by rw [← hR.out]; simp [*]), hB _⟩)
  · have hs' : s.toList.isEmpty = false := not_empty (fun e => hs (ByteArray.ext (Array.eq_empty_of_size_eq_zero e)))
    have hsd : decide (s = ⟨#[]⟩) = false := by simpa using hs
    rw [hsd] at hR
    go_enter Tryz.func49, Tryz.ntmps49
    go_wp2_with fail
    all_goals (go_ret; exact ⟨ret_bool (by rw [← hR.out]; simp [*]), hB _⟩)
/-- What check asks of a value's own cells, but for the depth. -/
def restB (k x : Int) (s : ByteArray) (n m : Nat) : Bool := decide (k < 0) || decide (6 < k) || !plainB k x s n m || !Lib.validD s.data.toList
theorem alone_rest (d k x : Int) (s : ByteArray) (n m : Nat) : aloneT d k x s n m = if deepB k < d then 17 else if restB k x s n m = true then 18 else 0 := by
  unfold aloneT restB
  by_cases h1 : deepB k < d
  · rw [if_pos h1, if_pos h1]
  rw [if_neg h1, if_neg h1]
  by_cases h2 : k < 0 ∨ 6 < k
  · rw [if_pos h2, if_pos]
    rcases h2 with h | h <;> simp [h]
  rw [if_neg h2]
  have h3 : ¬ k < 0 := fun h => h2 (.inl h)
  have h4 : ¬ 6 < k := fun h => h2 (.inr h)
  have hp : plainB k x s n m = (keepsB k x s n m && !(decide (k = 6) && decide (n ≠ m))) := by
    unfold plainB keepsB
    by_cases h6 : k = 6
    · subst h6
      by_cases e : n = m
      · subst e; simp
      · have : ¬ ((n : Int) = (m : Int)) := by omega
        simp [e, this]
    · by_cases h5 : k = 5
      · subst h5; simp
      · have e5 : (k == 5) = false := by simpa using h5
        have e6 : (k == 6) = false := by simpa using h6
        have d6 : decide (k = 6) = false := by simpa using h6
        rw [e5, e6, d6]
        cases (x == 0 || k == 3) <;> cases (decide (s = ⟨#[]⟩) || k == 4) <;> cases ((n : Int) == 0) <;> cases ((m : Int) == 0) <;> rfl
  rw [hp]
  cases hk : keepsB k x s n m
  · simp
  · cases hv : Lib.validD s.data.toList
    · simp
    · by_cases h6 : k = 6
      · subst h6
        by_cases e : n = m
        · subst e; simp
        · simp [e]
      · simp [h3, h4, h6]
end Go.Proofs.YtbcfkajcmbckbaaGreatDoor.Chk
/-! The document's check of every value: what Check tells. -/
namespace Go.Proofs.YtbcfkajcmbckbaaGreatDoor.Chk
open Go Go.RowKit

theorem kr_quiet_if {c : Bool} {p q : Prop} (h : c = true) (hp : p) : if c = true then p else q := by rw [if_pos h]; exact hp
theorem kr_wrap (x : Int) (h0 : -9223372036854775808 ≤ x) (h1 : x ≤ 9223372036854775807) : IntKind.i64.wrap x = x := by
  rw [IntKind.wrap_i64]; omega
def RefOks (d : Nat) (its : List Tr) : Prop := d ≤ 63 → ∀ (i : Nat) (u : Tr), its[i]? = some u → ∀ (cs : List Value) (w : World), VRep w u cs →
  Calls Tryz.prog 27 #[.agg cs.toArray, .int .i64 ((d : Int) + 1)] w fun e w' => e = .returned (.int .i64 (checkT (d + 1) u)) ∧ Below w.heap.size w w'
set_option maxHeartbeats 8000000 in
set_option maxRecDepth 100000 in
theorem ref_one (k x : Int) (s : ByteArray) (an : Option Addr) (cn : Nat) (ns : List ByteArray) (ai : Option Addr) (ci : Nat) (its : List Tr) (d : Nat) (w : World) (hd : d ≤ 64) (hs : s.size ≤ 140737488351232) (hnl : ns.length ≤ 8796093021952) (hml : its.length ≤ 8796093021952) (hz : Hid (∀ n ∈ ns, n.size ≤ 140737488351232))
    (hN : Hid (Reads w (.slice an ns.length cn) ns)) (hL : Hid (ItemsAt' w ai its)) (hI : Hid (RefOks d its)) :
    Calls Tryz.prog 27 #[.agg #[.int .i64 k, .int .i64 x, .string s, .slice an ns.length cn, .slice ai its.length ci], .int .i64 (d : Int)] w fun e w' => e = .returned (.int .i64 (checkT d (.node k x s ns its))) ∧ Below w.heap.size w w' := by
  have hpl := fun W => hid_e (plain_code k x s an ns.length cn ai its.length ci W)
  have hcs := fun W => hid_e (dclean_code s (by omega) W)
  obtain ⟨c, hc⟩ : ∃ c, Hid (checkT d (.node k x s ns its) = c) := ⟨_, hid_e rfl⟩
  rw [hc.out]
  obtain ⟨al, hal⟩ : ∃ c, Hid (aloneT d k x s ns.length its.length = c) := ⟨_, hid_e rfl⟩
  have hC : Hid ((if al = 0 then (if k = 6 then membersT (d + 1) [] ns its else itemsT (d + 1) its) else al) = c) := by
    rw [Hid, ← hc.out, checkT, hal.out]
  have hA : Hid (al = if deepB k < (d : Int) then 17 else if restB k x s ns.length its.length = true then 18 else 0) := by rw [Hid, ← hal.out, alone_rest]
  obtain ⟨rb, hrb⟩ : ∃ c, Hid (restB k x s ns.length its.length = c) := ⟨_, hid_e rfl⟩
  have HRB : Hid (rb = (decide (k < 0) || decide (6 < k) || !plainB k x s ns.length its.length || !Lib.validD s.data.toList)) := by rw [Hid, ← hrb.out]; rfl
  obtain ⟨pb, hpb⟩ : ∃ c, Hid (plainB k x s ns.length its.length = c) := ⟨_, hid_e rfl⟩
  obtain ⟨vb, hvb⟩ : ∃ c, Hid (Lib.validD s.data.toList = c) := ⟨_, hid_e rfl⟩
  rw [hpb.out, hvb.out] at HRB
  rw [hpb.out] at hpl
  rw [hvb.out] at hcs
  rw [hrb.out] at hA
  obtain ⟨db, hdb⟩ : ∃ c : Bool, Hid (decide (deepB k < (d : Int)) = c) := ⟨_, hid_e rfl⟩
  have hd0 : (0 : Int) ≤ (d : Int) := by omega
  have hd1 : (d : Int) ≤ 64 := by omega
  go_enter Tryz.func27, Tryz.ntmps27
  go_upto_region 1 with fail
  obtain ⟨X0, hX0⟩ : ∃ X, Hid (w.alloc (.cells #[.int .i64 k, .int .i64 x, .string s, .slice an ns.length cn, .slice ai its.length ci] 25) = X) := ⟨_, hid_e rfl⟩
  have HB0 : Below w.heap.size w X0 := by rw [← hX0.out]; exact (Below.refl _ w).alloc (Nat.le_refl _) _
  have h0 : X0.heap[w.heap.size]? = some (.cells #[.int .i64 k, .int .i64 x, .string s, .slice an ns.length cn, .slice ai its.length ci] 25 (0, 0)) := by rw [← hX0.out]; exact heap_alloc_new w _
  rw [hX0.out]
  clear hX0
  obtain ⟨y0, y1, y2, y3, y4, -⟩ := row_cells h0
  go_cut [5] (fun v wx => (∃ z, v = .bool z ∧ Hid (z = (k == 5 || k == 6))) ∧ wx = X0)
  case first =>
    clear hpl hcs
    by_cases h5 : k = 5
    · have e5 : (k == 5) = true := by simpa using h5
      clear h5
      go_wp2_with fail
      go_meet
      exact ⟨⟨_, rfl, by rw [Hid, e5]; rfl⟩, rfl⟩
    · have e5 : (k == 5) = false := by simpa using h5
      go_wp2_with fail
      go_meet
      exact ⟨⟨_, rfl, by rw [Hid, e5]; simp⟩, rfl⟩
  case rest =>
    obtain ⟨⟨zd, rfl, hzd⟩, rfl⟩ := hcut
    go_upto_region 2 with fail
    go_cut [24] (fun v wx => v = .bool db ∧ wx = wc)
    case first =>
      clear hpl hcs
      have hd2 : ¬ (64 : Int) < (d : Int) := by omega
      cases zd
      · have e : db = false := by
          rw [← hdb.out]
          unfold deepB
          rw [← hzd.out, if_neg (by decide)]
          simp; omega
        subst e
        go_wp2
        go_meet
        exact ⟨rfl, rfl⟩
      · by_cases h64 : (d : Int) = 64
        · have e : db = true := by
            rw [← hdb.out]
            unfold deepB
            rw [← hzd.out, if_pos rfl, h64]
            rfl
          subst e
          have h64' : ((d : Int) == 64) = true := by simpa using h64
          clear h64
          go_wp2
          go_meet
          exact ⟨rfl, rfl⟩
        · have e : db = false := by
            rw [← hdb.out]
            unfold deepB
            rw [← hzd.out, if_pos rfl]
            simp; omega
          subst e
          have h64' : ((d : Int) == 64) = false := by simpa using h64
          go_wp2
          go_meet
          exact ⟨rfl, rfl⟩
    case rest =>
      obtain ⟨rfl, rfl⟩ := hcut
      cases db with
      | true =>
        clear hpl hcs
        have e17 : Hid (c = 17) := by
          have h1 := hA.out
          rw [if_pos (by simpa using hdb.out)] at h1
          have h2 := hC.out
          rw [h1, if_neg (by decide)] at h2
          exact h2.symm
        go_wp2
        go_ret
        exact ⟨ret_int e17.out.symm, HB0⟩
      | false =>
        have hA2 : Hid (al = if rb = true then 18 else 0) := by
          have h1 := hA.out
          rw [if_neg (by simpa using hdb.out)] at h1
          exact h1
        go_upto_region 4 with fail
        go_cut [43] (fun v wx => v = .bool rb ∧ Below w.heap.size w wx ∧ wx.heap[w.heap.size]? = some (.cells #[.int .i64 k, .int .i64 x, .string s, .slice an ns.length cn, .slice ai its.length ci] 25 (0, 0)))
        case first =>
          by_cases k1 : k < 0
          · have e : rb = true := by rw [HRB.out]; simp [k1]
            subst e
            go_wp2_with fail
            go_meet
            exact ⟨rfl, HB0, h0⟩
          · by_cases k2 : 6 < k
            · have e : rb = true := by rw [HRB.out]; simp [k2]
              subst e
              go_wp2_with fail
              go_meet
              exact ⟨rfl, HB0, h0⟩
            · have HRB' : Hid (rb = (!pb || !vb)) := by rw [Hid, HRB.out]; simp [k1, k2]
              go_wp2_with fail
              go_fit (hpl _).out
              rintro e X1 ⟨rfl, hb⟩
              have HB1 : Below w.heap.size w X1 := HB0.trans (hb.mono HB0.size)
              have h1 := (hb.block _ (Array.getElem?_eq_some_iff.1 h0).1).trans h0
              clear hb y0 y1 y2 y3 y4
              obtain ⟨y0, y1, y2, y3, y4, -⟩ := row_cells h1
              cases pb with
              | false =>
                have e : rb = true := by rw [HRB'.out]; rfl
                subst e
                go_wp2_with fail
                go_meet
                exact ⟨rfl, HB1, h1⟩
              | true =>
                have e : rb = !vb := by rw [HRB'.out]; rfl
                subst e
                go_wp2_with fail
                go_fit (hcs _).out
                rintro e X2 ⟨rfl, rfl⟩
                go_wp2_with fail
                go_meet
                exact ⟨rfl, HB1, h1⟩
        case rest =>
          obtain ⟨rfl, HB, h1⟩ := hcut
          clear h0 HB0 y0 y1 y2 y3 y4 hpl hcs
          cases rb with
          | true =>
            have e18 : Hid (c = 18) := by
              have h1 := hA2.out
              rw [if_pos rfl] at h1
              have h2 := hC.out
              rw [h1, if_neg (by decide)] at h2
              exact h2.symm
            go_wp2
            go_ret
            exact ⟨ret_int e18.out.symm, HB⟩
          | false =>
            have e0 : Hid (al = 0) := by have h1 := hA2.out; rw [if_neg (by decide)] at h1; exact h1
            have hC2 : Hid ((if k = 6 then membersT (d + 1) [] ns its else itemsT (d + 1) its) = c) := by have h2 := hC.out; rw [if_pos e0.out] at h2; exact h2
            have hN6 : Hid (k = 6 → ns.length = its.length) := (aloneT_ok (hal.out.trans e0.out)).2.2.2.2.2
            have hd63 : Hid (its.length ≠ 0 → d ≤ 63) := aloneT_items (hal.out.trans e0.out)
            clear hA hA2 hC hzd HRB
            go_wp2_with fail
            go_loopw [6] (fun iv wr => ∃ p : Nat, p ≤ its.length ∧ iv = .int .i64 p ∧ Below w.heap.size w wr ∧ wr.heap[w.heap.size]? = some (.cells #[.int .i64 k, .int .i64 x, .string s, .slice an ns.length cn, .slice ai its.length ci] 25 (0, 0)) ∧ Hid ((if k = 6 then membersT (d + 1) (ns.take p) (ns.drop p) (its.drop p) else itemsT (d + 1) (its.drop p)) = c)) (fun iv _ => its.length - (intOf iv).toNat)
            case atStart => exact ⟨0, Nat.zero_le _, rfl, HB, h1, hC2⟩
            case round =>
              clear HB h1 hC2
              obtain ⟨p, hp, rfl, HB, h0, hkn⟩ := hrel
              obtain ⟨y0, -, -, y3, y4, -⟩ := row_cells h0
              by_cases hlt : p < its.length
              · obtain ⟨u, hu⟩ : ∃ u, Hid (its[p]? = some u) := ⟨_, hid_e (List.getElem?_eq_getElem hlt)⟩
                have hd3 : d ≤ 63 := hd63.out (by omega)
                obtain ⟨g, o, rfl, hb, hV⟩ := hL.out.resolve_left (by intro e; subst e; simp at hlt)
                obtain ⟨cs, hia, hr⟩ := VRepL.at its o p u hV hu.out
                obtain ⟨k2, x2, s2, an2, ln2, cn2, ai2, li2, ci2, rfl⟩ := vrep_five hr
                have hcall := fun W (hW : Below w.heap.size w W) => hid_e (hI.out hd3 p u hu.out _ W (VRep.keep hW _ _ hr))
                obtain ⟨r, hr0⟩ : ∃ z, Hid (checkT (d + 1) u = z) := ⟨_, hid_e rfl⟩
                rw [hr0.out] at hcall
                have i1 : (p : Int) < (its.length : Int) := by omega
                have i2 : (0 : Int) ≤ (p : Int) := by omega
                have hd2 : decide ((p : Int) < (its.length : Int)) = true := by simp; omega
                clear hV hr
                by_cases h6 : k = 6
                · have hNM := hN6.out h6
                  have hpn : p < ns.length := by omega
                  obtain ⟨g1, o1, rfl, cc⟩ := k_reads_at hN.out hpn
                  have n1 := stay HB cc
                  obtain ⟨nm, hnm⟩ : ∃ nm, Hid (ns[p] = nm) := ⟨_, hid_e rfl⟩
                  rw [hnm.out] at n1
                  have hzs : nm.size ≤ 140737488351232 := by rw [← hnm.out]; exact hz.out _ (List.getElem_mem _)
                  have hcl := hid_e (dclean_code nm (by omega) wr)
                  obtain ⟨vn, hvn⟩ : ∃ z, Hid (Lib.validD nm.data.toList = z) := ⟨_, hid_e rfl⟩
                  rw [hvn.out] at hcl
                  have hst := hid_e (membersT_at (d := d + 1) (show ns[p]? = some nm by rw [List.getElem?_eq_getElem hpn, hnm.out]) hu.out)
                  have hcap : (ns.length : Int) ≤ (cn : Int) := by obtain ⟨_, _, e, hc, _⟩ := hN.out; cases e; omega
                  have i3 : (p : Int) < (ns.length : Int) := by omega
                  have i4 : (p : Int) ≤ (cn : Int) := by omega
                  have htk := fun W (hW : Below w.heap.size w W) => hid_e (has_code (some ⟨g1, o1, none⟩) p cn (ns.take p) nm W (hid_e ((k_reads_take hN.out (show p ≤ ns.length by omega)).keep hW)))
                  obtain ⟨hh, hhe⟩ : ∃ b, Hid (hasName (ns.take p) nm = b) := ⟨_, hid_e rfl⟩
                  rw [hhe.out] at htk
                  subst h6
                  have hkn6 : Hid (membersT (d + 1) (ns.take p) (ns.drop p) (its.drop p) = c) := by have h1 := hkn.out; rw [if_pos rfl] at h1; exact h1
                  clear cc hNM hkn
                  go_wp2_with fail
                  go_fit hcl.out
                  rintro e w1 ⟨rfl, rfl⟩
                  clear hcl
                  cases vn with
                  | false =>
                    have e18 : Hid (c = 18) := by rw [Hid, ← hkn6.out, hst.out, if_pos hvn.out]
                    clear htk hia hcall
                    go_wp2_with fail
                    go_ret
                    exact ⟨ret_int e18.out.symm, HB⟩
                  | true =>
                    go_wp2_with fail
                    refine wp_region_quiet (C := fun w' => Below w1.heap.size w1 w') (by kernel_rfl) (by kernel_rfl) (below_drewN (Below.refl _ _) 1) ?_
                    refine wpQuiet_step (fun K hK => ?_)
                    go_simp
                    refine ⟨_, fun _ _ => rfl, hK _ ?_⟩
                    clear hK K
                    refine wpQuiet_step (fun K hK => ?_)
                    refine ⟨.int .i64 6, fun w' hw' => ?_, hK _ ?_⟩
                    · have t0 := stay hw' y0
                      go_simp
                    clear hK K
                    refine wpQuiet_step (fun K hK => ?_)
                    refine ⟨.bool true, fun w' _ => ?_, hK _ ?_⟩
                    · go_simp
                    clear hK K
                    refine wpQuiet_step (fun K hK => ?_)
                    go_simp
                    refine ⟨_, fun _ _ => rfl, hK _ ?_⟩
                    clear hK K
                    refine wpQuiet_step (fun K hK => ?_)
                    go_simp
                    refine ⟨_, fun _ _ => rfl, hK _ ?_⟩
                    clear hK K
                    refine wpQuiet_step (fun K hK => ?_)
                    refine kr_quiet_if (by kernel_rfl) ?_
                    refine ⟨.slice (some ⟨g1, o1, none⟩) ns.length cn, fun w' hw' => ?_, hK _ ?_⟩
                    · have t0 := stay hw' y3
                      go_simp
                    clear hK K
                    refine wpQuiet_step (fun K hK => ?_)
                    go_simp
                    refine ⟨_, fun _ _ => rfl, hK _ ?_⟩
                    clear hK K
                    refine wpQuiet_step (fun K hK => ?_)
                    refine kr_quiet_if (by kernel_rfl) ?_
                    refine ⟨.slice (some ⟨g1, o1, none⟩) p cn, fun w' _ => ?_, hK _ ?_⟩
                    · go_simp
                    clear hK K
                    refine wpQuiet_step (fun K hK => ?_)
                    go_simp
                    refine ⟨_, fun _ _ => rfl, hK _ ?_⟩
                    clear hK K
                    refine wpQuiet_step (fun K hK => ?_)
                    refine kr_quiet_if (by kernel_rfl) ?_
                    refine ⟨.slice (some ⟨g1, o1, none⟩) ns.length cn, fun w' hw' => ?_, hK _ ?_⟩
                    · have t0 := stay hw' y3
                      go_simp
                    clear hK K
                    refine wpQuiet_step (fun K hK => ?_)
                    go_simp
                    refine ⟨_, fun _ _ => rfl, hK _ ?_⟩
                    clear hK K
                    refine wpQuiet_step (fun K hK => ?_)
                    go_simp
                    refine ⟨_, fun _ _ => rfl, hK _ ?_⟩
                    clear hK K
                    refine wpQuiet_step (fun K hK => ?_)
                    refine kr_quiet_if (by kernel_rfl) ?_
                    refine ⟨.string nm, fun w' hw' => ?_, hK _ ?_⟩
                    · have t0 := stay hw' n1
                      go_simp
                    clear hK K
                    refine wpQuiet_step (fun K hK => ?_)
                    refine kr_quiet_if (by kernel_rfl) ?_
                    refine ⟨.bool hh, fun w' hw' => ?_, hK _ ?_⟩
                    · go_simp
                      refine ((htk w' (HB.trans (hw'.mono HB.size))).out).mono ?_
                      rintro e w'' ⟨rfl, hb⟩
                      exact ⟨rfl, hw'.trans (hb.mono hw'.size)⟩
                    clear hK K
                    refine wpQuiet_step (fun K hK => ?_)
                    go_simp
                    refine ⟨_, fun _ _ => rfl, hK _ ?_⟩
                    clear hK K
                    refine wpQuiet_nil ?_
                    intro w' hw'
                    have HB' : Below w.heap.size w w' := HB.trans (hw'.mono HB.size)
                    have h0' := (hw'.block _ (Array.getElem?_eq_some_iff.1 h0).1).trans h0
                    clear hw' y0 y3 y4 n1 htk
                    cases hh with
                    | true =>
                      have e16 : Hid (c = 16) := by rw [Hid, ← hkn6.out, hst.out, if_neg (by rw [hvn.out]; decide), if_pos hhe.out]
                      clear hia hcall
                      go_wp2_with fail
                      go_ret
                      exact ⟨ret_int e16.out.symm, HB'⟩
                    | false =>
                      have hnx : Hid ((if r = 0 then membersT (d + 1) (ns.take (p + 1)) (ns.drop (p + 1)) (its.drop (p + 1)) else r) = c) := by have h1 := hst.out; rw [hkn6.out, if_neg (by rw [hvn.out]; decide), if_neg (by rw [hhe.out]; decide), hr0.out] at h1; exact h1.symm
                      clear hst hkn6
                      obtain ⟨-, -, -, -, y4, -⟩ := row_cells h0'
                      have z0 := stay HB' (hia 0 _ rfl)
                      have z1 := stay HB' (hia 1 _ rfl)
                      have z2 := stay HB' (hia 2 _ rfl)
                      have z3 := stay HB' (hia 3 _ rfl)
                      have z4 := stay HB' (hia 4 _ rfl)
                      simp only [Nat.add_zero] at z0
                      have hdp : IntKind.i64.wrap ((d : Int) + 1) = (d : Int) + 1 := kr_wrap _ (by omega) (by omega)
                      have HC := hcall w' HB'
                      go_wp2_with fail
                      go_fit HC.out
                      rintro e w1 ⟨rfl, hb1⟩
                      have HB1 : Below w.heap.size w w1 := HB'.trans (hb1.mono HB'.size)
                      have h01 := (hb1.block _ (Array.getElem?_eq_some_iff.1 h0').1).trans h0'
                      clear z0 z1 z2 z3 z4 HC y4 hb1 hia hcall
                      by_cases hz0 : r = 0
                      · subst hz0
                        have hN2 : Hid (membersT (d + 1) (ns.take (p + 1)) (ns.drop (p + 1)) (its.drop (p + 1)) = c) := by have h1 := hnx.out; first | exact h1 | (rw [if_pos rfl] at h1; exact h1)
                        go_wp2_with fail
                        go_roundw
                        case rel => exact ⟨p + 1, by omega, by simp, HB1, h01, by first | exact hN2 | (rw [Hid, if_pos rfl]; exact hN2.out)⟩
                        case measure => simp [intOf]; omega
                      · have hz1 : (r == 0) = false := by simpa using hz0
                        have er : Hid (c = r) := by have h1 := hnx.out; first | exact h1.symm | (rw [if_neg hz0] at h1; exact h1.symm)
                        go_wp2_with fail
                        go_ret
                        exact ⟨ret_int er.out.symm, HB1⟩
                · have e6 : (k == 6) = false := by simpa using h6
                  have hst := hid_e (itemsT_at (d := d + 1) hu.out)
                  have hnx : Hid ((if r = 0 then itemsT (d + 1) (its.drop (p + 1)) else r) = c) := by have h1 := hkn.out; rw [if_neg h6, hst.out, hr0.out] at h1; exact h1
                  clear y3 hst hkn
                  go_wp2_with fail
                  go_quiet (fail)
                  have HB' := below_drewN HB nq
                  have h0' : (wr.drewN nq).heap[w.heap.size]? = _ := h0
                  clear y0 y4
                  generalize wr.drewN nq = w' at HB' h0' ⊢
                  obtain ⟨-, -, -, -, y4, -⟩ := row_cells h0'
                  have z0 := stay HB' (hia 0 _ rfl)
                  have z1 := stay HB' (hia 1 _ rfl)
                  have z2 := stay HB' (hia 2 _ rfl)
                  have z3 := stay HB' (hia 3 _ rfl)
                  have z4 := stay HB' (hia 4 _ rfl)
                  simp only [Nat.add_zero] at z0
                  have hdp : IntKind.i64.wrap ((d : Int) + 1) = (d : Int) + 1 := kr_wrap _ (by omega) (by omega)
                  have HC := hcall w' HB'
                  go_wp2_with fail
                  go_fit HC.out
                  rintro e w1 ⟨rfl, hb1⟩
                  have HB1 : Below w.heap.size w w1 := HB'.trans (hb1.mono HB'.size)
                  have h01 := (hb1.block _ (Array.getElem?_eq_some_iff.1 h0').1).trans h0'
                  clear z0 z1 z2 z3 z4 HC y4 hb1 hia hcall
                  by_cases hz0 : r = 0
                  · subst hz0
                    have hN2 : Hid (itemsT (d + 1) (its.drop (p + 1)) = c) := by have h1 := hnx.out; first | exact h1 | (rw [if_pos rfl] at h1; exact h1)
                    go_wp2_with fail
                    go_roundw
                    case rel => exact ⟨p + 1, by omega, by simp, HB1, h01, by first | exact hN2 | (rw [Hid, if_neg h6]; exact hN2.out)⟩
                    case measure => simp [intOf]; omega
                  · have hz1 : (r == 0) = false := by simpa using hz0
                    have er : Hid (c = r) := by have h1 := hnx.out; first | exact h1.symm | (rw [if_neg hz0] at h1; exact h1.symm)
                    go_wp2_with fail
                    go_ret
                    exact ⟨ret_int er.out.symm, HB1⟩
              · obtain rfl : p = its.length := by omega
                have hd2 : decide ((its.length : Int) < (its.length : Int)) = false := by simp
                have e0 : Hid (c = 0) := by
                  have h1 := hkn.out
                  rw [List.drop_length] at h1
                  rw [Hid, ← h1]
                  split
                  · cases ns.drop its.length <;> rw [membersT]
                  · rw [itemsT]
                clear hkn
                go_wp2_with fail
                go_ret
                exact ⟨ret_int e0.out.symm, HB⟩

theorem ref_deep (t : Tr) (d : Nat) (cs : List Value) (w : World) (hd : d ≤ 64) (hV : VRep w t cs) (hS : SmallT t) :
    Calls Tryz.prog 27 #[.agg cs.toArray, .int .i64 (d : Int)] w fun e w' => e = .returned (.int .i64 (checkT d t)) ∧ Below w.heap.size w w' := by
  match t, hV, hS with
  | .node k x s ns its, hV, hS =>
    unfold VRep at hV
    unfold SmallT at hS
    obtain ⟨nm, a, c, rfl, hn, hc, hI⟩ := hV
    obtain ⟨an, cn, rfl, -, -⟩ := id hn
    obtain ⟨hs1, hs2, hs3, hs4, hs5⟩ := hS
    refine ref_one k x s an cn ns a c its d w hd hs1 (by omega) (by omega) (hid_e hs3) (hid_e hn) (hid_e hI) (hid_e (fun hd' i u hu ds w' h1 => ?_))
    have hlt : SizeOf.sizeOf u < SizeOf.sizeOf its := tr_lt hu
    have := ref_deep u (d + 1) ds w' (by omega) h1 (SmallL.at hs5 hu)
    rw [show (((d + 1 : Nat) : Int)) = (d : Int) + 1 by omega] at this
    exact this
termination_by SizeOf.sizeOf t
decreasing_by simp only [Tr.node.sizeOf_spec]; omega
theorem ref_check (t : Tr) (k x : Int) (s : ByteArray) (an : Option Addr) (ln cn : Nat) (ai : Option Addr) (li ci : Nat) (w : World) (hV : VRep w t (five k x s (.slice an ln cn) (.slice ai li ci))) (hS : SmallT t) :
    Calls Tryz.prog 17 #[.agg #[.int .i64 k, .int .i64 x, .string s, .slice an ln cn, .slice ai li ci]] w fun e w' => e = .returned (.int .i64 (checkT 0 t)) ∧ Below w.heap.size w w' := by
  have hcall := fun o => hid_e (ref_deep t 0 _ (w.alloc o) (by omega) (VRep.keep ((Below.refl _ w).alloc (Nat.le_refl _) o) _ _ hV) hS)
  obtain ⟨c, hc⟩ : ∃ c, Hid (checkT 0 t = c) := ⟨_, hid_e rfl⟩
  rw [hc.out] at hcall ⊢
  go_enter Tryz.func17, Tryz.ntmps17
  go_wp2_with fail
  go_fit (hcall _).out
  rintro e w1 ⟨rfl, hb1⟩
  go_wp2_with fail
  go_ret
  exact ⟨rfl, below_box hb1⟩
end Go.Proofs.YtbcfkajcmbckbaaGreatDoor.Chk
