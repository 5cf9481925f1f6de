import Derived.Test.YtgjemghfejaifaaGreatDoorC2
import Derived.Test.YtgjemghfejaifaaGreatDoorZB3
import Derived.Lib.ValidLaws
import Derived.Deep.DeepCutAuto
/-! The document's Character and Clean: a text is clean just if it is valid UTF-8. -/
namespace Go.Proofs.YtgjemghfejaifaaGreatDoor.Chk
open Go Go.RowKit

theorem str_beq (a b : ByteArray) : (a.toList == b.toList) = decide (a = b) := by
  rw [Bool.eq_iff_iff, beq_iff_eq, decide_eq_true_eq, ByteArray.toList_eq, ByteArray.toList_eq]
  exact ⟨fun h => ByteArray.ext (Array.toList_inj.1 h), fun h => by rw [h]⟩
theorem not_empty {s : ByteArray} (h : ¬ s.size = 0) : s.toList.isEmpty = false := by
  rw [Bool.eq_false_iff]
  intro e
  have e1 : s.toList = (⟨#[]⟩ : ByteArray).toList := by rw [List.isEmpty_iff.1 e]; rw [ByteArray.toList, ByteArray.toList.loop]; simp [ByteArray.size]
  have e2 : (s.toList == (⟨#[]⟩ : ByteArray).toList) = true := by rw [e1]; simp
  rw [str_beq] at e2
  have e3 : s = ⟨#[]⟩ := by simpa using e2
  rw [e3] at h
  exact h rfl
def byteAt (T : ByteArray) (n : Nat) : UInt8 := T.data.getD n 0
theorem byteAt_eq {T : ByteArray} {n : Nat} (h : n < T.size) : T[n] = byteAt T n := by
  have h' : n < T.data.size := h
  unfold byteAt
  rw [Array.getD_eq_getD_getElem?, Array.getElem?_eq_getElem h']
  rfl
def bt (s : ByteArray) (i : Nat) : Int := ((byteAt s i).toNat : Int)
theorem getD_bt (s : ByteArray) (i : Nat) : (((s.data.toList.getD i 0).toNat : Nat) : Int) = bt s i := by
  unfold bt byteAt
  rw [List.getD_eq_getElem?_getD, Array.getElem?_toList, Array.getD_eq_getD_getElem?]
theorem size_toList (s : ByteArray) : s.data.toList.length = s.size := by rw [Array.length_toList]; rfl
/-- The bytes behind the lead byte are as they must be. -/
def Chk (s : ByteArray) (n : Nat) (lo hi : Int) : Prop := n ≤ s.size ∧ (lo ≤ bt s 1 ∧ bt s 1 ≤ hi) ∧ (3 ≤ n → 128 ≤ bt s 2 ∧ bt s 2 ≤ 191) ∧ (4 ≤ n → 128 ≤ bt s 3 ∧ bt s 3 ≤ 191)
/-- What the lead byte asks. -/
def Lead (b n lo hi : Nat) : Prop := 128 ≤ b ∧ (n = 2 ∨ n = 3 ∨ n = 4) ∧ Lib.firstT b % 8 = n ∧ Lib.accLo (Lib.firstT b / 16) = lo ∧ Lib.accHi (Lib.firstT b / 16) = hi
theorem lead_eq {s : ByteArray} {n lo hi : Nat} (h0 : ¬ s.size = 0) (hL : Lead (byteAt s 0).toNat n lo hi) : Lib.validD s.data.toList = match Lib.checkN s.size (byteAt s 1).toNat (byteAt s 2).toNat (byteAt s 3).toNat n lo hi with | none => false | some k => Lib.validD (s.data.toList.drop k) := by
  obtain ⟨h1, h2, h3, h4, h5⟩ := hL
  have e : ∀ i, (s.data.toList.getD i 0).toNat = (byteAt s i).toNat := fun i => by
    have := getD_bt s i
    unfold bt at this
    omega
  rw [Lib.validD_lead s.data.toList (fun e => h0 (by rw [← size_toList, e]; rfl)) (by rw [e]; exact h1), e, e, e, e, h3, h4, h5, size_toList]
  cases Lib.checkN s.size (byteAt s 1).toNat (byteAt s 2).toNat (byteAt s 3).toNat n lo hi <;> rfl
theorem lead_good {s : ByteArray} {n lo hi : Nat} (h0 : ¬ s.size = 0) (hL : Lead (byteAt s 0).toNat n lo hi) (hC : Chk s n lo hi) : Lib.validD s.data.toList = Lib.validD (s.data.toList.drop n) := by
  rw [lead_eq h0 hL]
  obtain ⟨c1, c2, c3, c4⟩ := hC
  unfold bt at c2 c3 c4
  have : Lib.checkN s.size (byteAt s 1).toNat (byteAt s 2).toNat (byteAt s 3).toNat n lo hi = some n := by
    unfold Lib.checkN
    rcases hL.2.1 with rfl | rfl | rfl
    · rw [if_pos rfl, if_neg (by omega)]
    · have := c3 (by omega)
      rw [if_neg (by omega), if_pos rfl, if_neg (by omega)]
    · have := c3 (by omega)
      have := c4 (by omega)
      rw [if_neg (by omega), if_neg (by omega), if_pos rfl, if_neg (by omega)]
  rw [this]
theorem lead_bad {s : ByteArray} {n lo hi : Nat} (h0 : ¬ s.size = 0) (hL : Lead (byteAt s 0).toNat n lo hi) (hC : ¬ Chk s n lo hi) : Lib.validD s.data.toList = false := by
  rw [lead_eq h0 hL]
  have : Lib.checkN s.size (byteAt s 1).toNat (byteAt s 2).toNat (byteAt s 3).toNat n lo hi = none := by
    unfold Lib.checkN
    unfold Chk bt at hC
    rcases hL.2.1 with rfl | rfl | rfl
    · rw [if_pos rfl, if_pos ?_]
      by_cases g : s.size < 2 ∨ (byteAt s 1).toNat < lo ∨ hi < (byteAt s 1).toNat
      · exact g
      · exact absurd ⟨by omega, ⟨by omega, by omega⟩, fun h => absurd h (by decide), fun h => absurd h (by decide)⟩ hC
    · rw [if_neg (by omega), if_pos rfl, if_pos ?_]
      by_cases g : s.size < 3 ∨ (byteAt s 1).toNat < lo ∨ hi < (byteAt s 1).toNat ∨ (byteAt s 2).toNat < 128 ∨ 191 < (byteAt s 2).toNat
      · exact g
      · exact absurd ⟨by omega, ⟨by omega, by omega⟩, fun _ => ⟨by omega, by omega⟩, fun h => absurd h (by decide)⟩ hC
    · rw [if_neg (by omega), if_neg (by omega), if_pos rfl, if_pos ?_]
      by_cases g : s.size < 4 ∨ (byteAt s 1).toNat < lo ∨ hi < (byteAt s 1).toNat ∨ (byteAt s 2).toNat < 128 ∨ 191 < (byteAt s 2).toNat ∨ (byteAt s 3).toNat < 128 ∨ 191 < (byteAt s 3).toNat
      · exact g
      · exact absurd ⟨by omega, ⟨by omega, by omega⟩, fun _ => ⟨by omega, by omega⟩, fun _ => ⟨by omega, by omega⟩⟩ hC
  rw [this]
theorem lead_none {s : ByteArray} (h0 : ¬ s.size = 0) (h : (128 ≤ (byteAt s 0).toNat ∧ (byteAt s 0).toNat < 194) ∨ 245 ≤ (byteAt s 0).toNat) : Lib.validD s.data.toList = false := by
  have e : ∀ i, (s.data.toList.getD i 0).toNat = (byteAt s i).toNat := fun i => by
    have := getD_bt s i
    unfold bt at this
    omega
  rw [Lib.validD_lead s.data.toList (fun e => h0 (by rw [← size_toList, e]; rfl)) (by rw [e]; omega)]
  have e0 := e 0
  have : Lib.firstT (byteAt s 0).toNat = 241 := by
    unfold Lib.firstT
    repeat' split
    all_goals first | rfl | omega
  rw [e0, this]
  rfl
theorem ascii_good {s : ByteArray} (h0 : ¬ s.size = 0) (h : (byteAt s 0).toNat < 128) : Lib.validD s.data.toList = Lib.validD (s.data.toList.drop 1) := by
  have e := getD_bt s 0
  unfold bt at e
  cases hl : s.data.toList with
  | nil => exact absurd (by rw [← size_toList, hl]; rfl) h0
  | cons b t =>
    rw [hl] at e
    rw [List.drop_succ_cons, List.drop_zero]
    exact Lib.validD_cons b t (by simp at e; omega)

/-- What Character tells: no character, or how many bytes it has. -/
def CharPost (s : ByteArray) (e : Ending) : Prop := ∃ z : Int, e = .returned (.int .i64 z) ∧ z ≤ s.size ∧ ((z ≤ 0 ∧ Lib.validD s.data.toList = false) ∨ (0 < z ∧ Lib.validD s.data.toList = Lib.validD (s.data.toList.drop z.toNat)))
theorem char_bad {s : ByteArray} {z : Int} (hz : z ≤ 0) (h : Lib.validD s.data.toList = false) : CharPost s (.returned (.int .i64 z)) := ⟨z, rfl, by omega, .inl ⟨hz, h⟩⟩
theorem char_good {s : ByteArray} {n : Nat} (hn : 0 < n) (hs : n ≤ s.size) (h : Lib.validD s.data.toList = Lib.validD (s.data.toList.drop n)) : CharPost s (.returned (.int .i64 (n : Int))) := ⟨n, rfl, by omega, .inr ⟨by omega, by simpa using h⟩⟩
/-- What the loop has seen so far. -/
def Sofar (s : ByteArray) (lo hi : Int) (q : Nat) : Prop := (1 < q → lo ≤ bt s 1 ∧ bt s 1 ≤ hi) ∧ (2 < q → 128 ≤ bt s 2 ∧ bt s 2 ≤ 191) ∧ (3 < q → 128 ≤ bt s 3 ∧ bt s 3 ≤ 191)
theorem sofar_one (s : ByteArray) (lo hi : Int) : Sofar s lo hi 1 := ⟨fun h => absurd h (by decide), fun h => absurd h (by decide), fun h => absurd h (by decide)⟩
theorem sofar_next {s : ByteArray} {lo hi l h d : Int} {q : Nat} (hS : Sofar s lo hi q) (h1 : q = 1 → l = lo ∧ h = hi) (h2 : q ≠ 1 → l = 128 ∧ h = 191) (hq : 1 ≤ q ∧ q ≤ 3) (hd : bt s q = d) (g1 : ¬ d < l) (g2 : ¬ h < d) : Sofar s lo hi (q + 1) := by
  subst hd
  obtain ⟨s1, s2, s3⟩ := hS
  have : q = 1 ∨ q = 2 ∨ q = 3 := by omega
  rcases this with rfl | rfl | rfl
  · obtain ⟨rfl, rfl⟩ := h1 rfl
    exact ⟨fun _ => ⟨by omega, by omega⟩, fun h => absurd h (by decide), fun h => absurd h (by decide)⟩
  · obtain ⟨rfl, rfl⟩ := h2 (by decide)
    exact ⟨fun _ => s1 (by decide), fun _ => ⟨by omega, by omega⟩, fun h => absurd h (by decide)⟩
  · obtain ⟨rfl, rfl⟩ := h2 (by decide)
    exact ⟨fun _ => s1 (by decide), fun _ => s2 (by decide), fun _ => ⟨by omega, by omega⟩⟩
theorem not_chk {s : ByteArray} {n : Nat} {lo hi l h d : Int} {q : Nat} (h1 : q = 1 → l = lo ∧ h = hi) (h2 : q ≠ 1 → l = 128 ∧ h = 191) (hq : 1 ≤ q ∧ q < n) (hn : n ≤ 4) (hd : bt s q = d) (g : d < l ∨ h < d) : ¬ Chk s n lo hi := by
  subst hd
  rintro ⟨c1, c2, c3, c4⟩
  have : q = 1 ∨ q = 2 ∨ q = 3 := by omega
  rcases this with rfl | rfl | rfl
  · obtain ⟨rfl, rfl⟩ := h1 rfl
    omega
  · obtain ⟨rfl, rfl⟩ := h2 (by decide)
    have := c3 (by omega)
    omega
  · obtain ⟨rfl, rfl⟩ := h2 (by decide)
    have := c4 (by omega)
    omega
theorem chk_all {s : ByteArray} {n : Nat} {lo hi : Int} (hS : Sofar s lo hi n) (hn : 2 ≤ n) (hs : n ≤ s.size) : Chk s n lo hi :=
  ⟨hs, hS.1 (by omega), fun h => hS.2.1 (by omega), fun h => hS.2.2 (by omega)⟩

set_option maxHeartbeats 4000000 in
set_option maxRecDepth 100000 in
theorem character_code (s : ByteArray) (h0 : ¬ s.size = 0) (hs : s.size ≤ 9223372036854775806) (w : World) : Calls Tryz.prog 69 #[.string s] w fun e w' => CharPost s e ∧ w' = w := by
  have hne := not_empty h0
  have H0 := hid_e h0
  have e0 := byteAt_eq (show 0 < s.size by omega)
  have hs1 : (1 : Int) ≤ s.size := by omega
  obtain ⟨c, hc⟩ : ∃ c : Int, Hid (((byteAt s 0).toNat : Int) = c) := ⟨_, hid_e rfl⟩
  have hc0 : 0 ≤ c := by rw [← hc.out]; omega
  have hc1 : c ≤ 255 := by rw [← hc.out]; have := (byteAt s 0).toNat_lt; omega
  by_cases r1 : c < 128
  · have hv := hid_e (ascii_good H0.out (by have := hc.out; omega))
    go_enter Tryz.func69, Tryz.ntmps69
    go_wp2_with (rw [hc.out])
    go_ret
    exact ⟨char_good (n := 1) (by decide) (by omega) hv.out, rfl⟩
  by_cases r2 : 194 ≤ c
  rotate_left
  · have r3 : ¬ 224 ≤ c := by omega
    have r4 : ¬ 240 ≤ c := by omega
    have hv := hid_e (lead_none H0.out (by have := hc.out; omega))
    go_enter Tryz.func69, Tryz.ntmps69
    go_wp2_with (rw [hc.out])
    go_ret
    exact ⟨char_bad (by decide) hv.out, rfl⟩
  by_cases r3 : c ≤ 223
  · skip
    have hL : Hid (Lead (byteAt s 0).toNat 2 128 191) := by
      have hcc := hc.out
      refine ⟨by omega, by decide, ?_⟩
      have hf : Lib.firstT (byteAt s 0).toNat = 2 := by
        unfold Lib.firstT
        repeat' split
        all_goals first | rfl | omega
      rw [hf]
      decide
    go_enter Tryz.func69, Tryz.ntmps69
    go_wp2_with (rw [hc.out])
    go_loopw [5, 6, 7] (fun lo hi i wr => ∃ (l h : Int) (q : Nat), lo = .int .u8 l ∧ hi = .int .u8 h ∧ i = .int .i64 q ∧ 1 ≤ q ∧ q ≤ 2 ∧ q ≤ s.size ∧ Hid (q = 1 → l = 128 ∧ h = 191) ∧ Hid (q ≠ 1 → l = 128 ∧ h = 191) ∧ Hid (Sofar s 128 191 q) ∧ wr = w) (fun _ _ i _ => 2 - (intOf i).toNat)
    case atStart => exact ⟨_, _, 1, rfl, rfl, rfl, by omega, by omega, by omega, fun _ => ⟨rfl, rfl⟩, fun h => absurd rfl h, sofar_one s _ _, rfl⟩
    case round =>
      obtain ⟨l, h, q, rfl, rfl, rfl, hq1, hq2, hq3, h1, h2, hS, rfl⟩ := hrel
      by_cases hlt : q < 2
      · have hd : decide ((q : Int) < 2) = true := by simp; omega
        by_cases hend : q = s.size
        · have hb : ((q : Int) == (s.size : Int)) = true := by simp; omega
          have hv := hid_e (lead_bad H0.out hL.out (fun hC => by have := hC.1; omega))
          go_wp2
          go_ret
          exact ⟨char_bad (by decide) hv.out, rfl⟩
        · have hb : ((q : Int) == (s.size : Int)) = false := by simp; omega
          have hql : q < s.size := by omega
          have he := byteAt_eq hql
          obtain ⟨d, hd'⟩ : ∃ d : Int, Hid (((byteAt s q).toNat : Int) = d) := ⟨_, hid_e rfl⟩
          by_cases g1 : d < l
          · have hv := hid_e (lead_bad H0.out hL.out (not_chk h1.out h2.out ⟨hq1, hlt⟩ (by decide) hd'.out (.inl g1)))
            go_wp2_with (rw [hd'.out])
            go_ret
            exact ⟨char_bad (by decide) hv.out, rfl⟩
          · by_cases g2 : h < d
            · have hv := hid_e (lead_bad H0.out hL.out (not_chk h1.out h2.out ⟨hq1, hlt⟩ (by decide) hd'.out (.inr g2)))
              go_wp2_with (rw [hd'.out])
              go_ret
              exact ⟨char_bad (by decide) hv.out, rfl⟩
            · have hS' := hid_e (sofar_next hS.out h1.out h2.out ⟨hq1, by omega⟩ hd'.out g1 g2)
              go_wp2_with (rw [hd'.out])
              go_roundw
              case rel => exact ⟨128, 191, q + 1, rfl, rfl, by simp, by omega, by omega, by omega, fun h => by omega, fun _ => ⟨rfl, rfl⟩, hS', trivial⟩
              case measure => simp [intOf]; omega
      · obtain rfl : q = 2 := by omega
        have hv := hid_e (lead_good H0.out hL.out (chk_all hS.out (by decide) hq3))
        go_wp2
        go_ret
        exact ⟨char_good (n := 2) (by decide) hq3 hv.out, rfl⟩
  have r4 : 224 ≤ c := by omega
  by_cases r5 : c ≤ 239
  · by_cases x224 : c = 224
    · subst x224
      have hL : Hid (Lead (byteAt s 0).toNat 3 160 191) := by
        have hcc := hc.out
        refine ⟨by omega, by decide, ?_⟩
        have hf : Lib.firstT (byteAt s 0).toNat = 19 := by
          unfold Lib.firstT
          repeat' split
          all_goals first | rfl | omega
        rw [hf]
        decide
      go_enter Tryz.func69, Tryz.ntmps69
      go_wp2_with (rw [hc.out])
      go_loopw [5, 6, 7] (fun lo hi i wr => ∃ (l h : Int) (q : Nat), lo = .int .u8 l ∧ hi = .int .u8 h ∧ i = .int .i64 q ∧ 1 ≤ q ∧ q ≤ 3 ∧ q ≤ s.size ∧ Hid (q = 1 → l = 160 ∧ h = 191) ∧ Hid (q ≠ 1 → l = 128 ∧ h = 191) ∧ Hid (Sofar s 160 191 q) ∧ wr = w) (fun _ _ i _ => 3 - (intOf i).toNat)
      case atStart => exact ⟨_, _, 1, rfl, rfl, rfl, by omega, by omega, by omega, fun _ => ⟨rfl, rfl⟩, fun h => absurd rfl h, sofar_one s _ _, rfl⟩
      case round =>
        obtain ⟨l, h, q, rfl, rfl, rfl, hq1, hq2, hq3, h1, h2, hS, rfl⟩ := hrel
        by_cases hlt : q < 3
        · have hd : decide ((q : Int) < 3) = true := by simp; omega
          by_cases hend : q = s.size
          · have hb : ((q : Int) == (s.size : Int)) = true := by simp; omega
            have hv := hid_e (lead_bad H0.out hL.out (fun hC => by have := hC.1; omega))
            go_wp2
            go_ret
            exact ⟨char_bad (by decide) hv.out, rfl⟩
          · have hb : ((q : Int) == (s.size : Int)) = false := by simp; omega
            have hql : q < s.size := by omega
            have he := byteAt_eq hql
            obtain ⟨d, hd'⟩ : ∃ d : Int, Hid (((byteAt s q).toNat : Int) = d) := ⟨_, hid_e rfl⟩
            by_cases g1 : d < l
            · have hv := hid_e (lead_bad H0.out hL.out (not_chk h1.out h2.out ⟨hq1, hlt⟩ (by decide) hd'.out (.inl g1)))
              go_wp2_with (rw [hd'.out])
              go_ret
              exact ⟨char_bad (by decide) hv.out, rfl⟩
            · by_cases g2 : h < d
              · have hv := hid_e (lead_bad H0.out hL.out (not_chk h1.out h2.out ⟨hq1, hlt⟩ (by decide) hd'.out (.inr g2)))
                go_wp2_with (rw [hd'.out])
                go_ret
                exact ⟨char_bad (by decide) hv.out, rfl⟩
              · have hS' := hid_e (sofar_next hS.out h1.out h2.out ⟨hq1, by omega⟩ hd'.out g1 g2)
                go_wp2_with (rw [hd'.out])
                go_roundw
                case rel => exact ⟨128, 191, q + 1, rfl, rfl, by simp, by omega, by omega, by omega, fun h => by omega, fun _ => ⟨rfl, rfl⟩, hS', trivial⟩
                case measure => simp [intOf]; omega
        · obtain rfl : q = 3 := by omega
          have hv := hid_e (lead_good H0.out hL.out (chk_all hS.out (by decide) hq3))
          go_wp2
          go_ret
          exact ⟨char_good (n := 3) (by decide) hq3 hv.out, rfl⟩
    have q224 : (c == 224) = false := by simpa using x224
    by_cases x237 : c = 237
    · subst x237
      have hL : Hid (Lead (byteAt s 0).toNat 3 128 159) := by
        have hcc := hc.out
        refine ⟨by omega, by decide, ?_⟩
        have hf : Lib.firstT (byteAt s 0).toNat = 35 := by
          unfold Lib.firstT
          repeat' split
          all_goals first | rfl | omega
        rw [hf]
        decide
      go_enter Tryz.func69, Tryz.ntmps69
      go_wp2_with (rw [hc.out])
      go_loopw [5, 6, 7] (fun lo hi i wr => ∃ (l h : Int) (q : Nat), lo = .int .u8 l ∧ hi = .int .u8 h ∧ i = .int .i64 q ∧ 1 ≤ q ∧ q ≤ 3 ∧ q ≤ s.size ∧ Hid (q = 1 → l = 128 ∧ h = 159) ∧ Hid (q ≠ 1 → l = 128 ∧ h = 191) ∧ Hid (Sofar s 128 159 q) ∧ wr = w) (fun _ _ i _ => 3 - (intOf i).toNat)
      case atStart => exact ⟨_, _, 1, rfl, rfl, rfl, by omega, by omega, by omega, fun _ => ⟨rfl, rfl⟩, fun h => absurd rfl h, sofar_one s _ _, rfl⟩
      case round =>
        obtain ⟨l, h, q, rfl, rfl, rfl, hq1, hq2, hq3, h1, h2, hS, rfl⟩ := hrel
        by_cases hlt : q < 3
        · have hd : decide ((q : Int) < 3) = true := by simp; omega
          by_cases hend : q = s.size
          · have hb : ((q : Int) == (s.size : Int)) = true := by simp; omega
            have hv := hid_e (lead_bad H0.out hL.out (fun hC => by have := hC.1; omega))
            go_wp2
            go_ret
            exact ⟨char_bad (by decide) hv.out, rfl⟩
          · have hb : ((q : Int) == (s.size : Int)) = false := by simp; omega
            have hql : q < s.size := by omega
            have he := byteAt_eq hql
            obtain ⟨d, hd'⟩ : ∃ d : Int, Hid (((byteAt s q).toNat : Int) = d) := ⟨_, hid_e rfl⟩
            by_cases g1 : d < l
            · have hv := hid_e (lead_bad H0.out hL.out (not_chk h1.out h2.out ⟨hq1, hlt⟩ (by decide) hd'.out (.inl g1)))
              go_wp2_with (rw [hd'.out])
              go_ret
              exact ⟨char_bad (by decide) hv.out, rfl⟩
            · by_cases g2 : h < d
              · have hv := hid_e (lead_bad H0.out hL.out (not_chk h1.out h2.out ⟨hq1, hlt⟩ (by decide) hd'.out (.inr g2)))
                go_wp2_with (rw [hd'.out])
                go_ret
                exact ⟨char_bad (by decide) hv.out, rfl⟩
              · have hS' := hid_e (sofar_next hS.out h1.out h2.out ⟨hq1, by omega⟩ hd'.out g1 g2)
                go_wp2_with (rw [hd'.out])
                go_roundw
                case rel => exact ⟨128, 191, q + 1, rfl, rfl, by simp, by omega, by omega, by omega, fun h => by omega, fun _ => ⟨rfl, rfl⟩, hS', trivial⟩
                case measure => simp [intOf]; omega
        · obtain rfl : q = 3 := by omega
          have hv := hid_e (lead_good H0.out hL.out (chk_all hS.out (by decide) hq3))
          go_wp2
          go_ret
          exact ⟨char_good (n := 3) (by decide) hq3 hv.out, rfl⟩
    have q237 : (c == 237) = false := by simpa using x237
    have hL : Hid (Lead (byteAt s 0).toNat 3 128 191) := by
      have hcc := hc.out
      refine ⟨by omega, by decide, ?_⟩
      have hf : Lib.firstT (byteAt s 0).toNat = 3 := by
        unfold Lib.firstT
        repeat' split
        all_goals first | rfl | omega
      rw [hf]
      decide
    go_enter Tryz.func69, Tryz.ntmps69
    go_wp2_with (rw [hc.out])
    go_loopw [5, 6, 7] (fun lo hi i wr => ∃ (l h : Int) (q : Nat), lo = .int .u8 l ∧ hi = .int .u8 h ∧ i = .int .i64 q ∧ 1 ≤ q ∧ q ≤ 3 ∧ q ≤ s.size ∧ Hid (q = 1 → l = 128 ∧ h = 191) ∧ Hid (q ≠ 1 → l = 128 ∧ h = 191) ∧ Hid (Sofar s 128 191 q) ∧ wr = w) (fun _ _ i _ => 3 - (intOf i).toNat)
    case atStart => exact ⟨_, _, 1, rfl, rfl, rfl, by omega, by omega, by omega, fun _ => ⟨rfl, rfl⟩, fun h => absurd rfl h, sofar_one s _ _, rfl⟩
    case round =>
      obtain ⟨l, h, q, rfl, rfl, rfl, hq1, hq2, hq3, h1, h2, hS, rfl⟩ := hrel
      by_cases hlt : q < 3
      · have hd : decide ((q : Int) < 3) = true := by simp; omega
        by_cases hend : q = s.size
        · have hb : ((q : Int) == (s.size : Int)) = true := by simp; omega
          have hv := hid_e (lead_bad H0.out hL.out (fun hC => by have := hC.1; omega))
          go_wp2
          go_ret
          exact ⟨char_bad (by decide) hv.out, rfl⟩
        · have hb : ((q : Int) == (s.size : Int)) = false := by simp; omega
          have hql : q < s.size := by omega
          have he := byteAt_eq hql
          obtain ⟨d, hd'⟩ : ∃ d : Int, Hid (((byteAt s q).toNat : Int) = d) := ⟨_, hid_e rfl⟩
          by_cases g1 : d < l
          · have hv := hid_e (lead_bad H0.out hL.out (not_chk h1.out h2.out ⟨hq1, hlt⟩ (by decide) hd'.out (.inl g1)))
            go_wp2_with (rw [hd'.out])
            go_ret
            exact ⟨char_bad (by decide) hv.out, rfl⟩
          · by_cases g2 : h < d
            · have hv := hid_e (lead_bad H0.out hL.out (not_chk h1.out h2.out ⟨hq1, hlt⟩ (by decide) hd'.out (.inr g2)))
              go_wp2_with (rw [hd'.out])
              go_ret
              exact ⟨char_bad (by decide) hv.out, rfl⟩
            · have hS' := hid_e (sofar_next hS.out h1.out h2.out ⟨hq1, by omega⟩ hd'.out g1 g2)
              go_wp2_with (rw [hd'.out])
              go_roundw
              case rel => exact ⟨128, 191, q + 1, rfl, rfl, by simp, by omega, by omega, by omega, fun h => by omega, fun _ => ⟨rfl, rfl⟩, hS', trivial⟩
              case measure => simp [intOf]; omega
      · obtain rfl : q = 3 := by omega
        have hv := hid_e (lead_good H0.out hL.out (chk_all hS.out (by decide) hq3))
        go_wp2
        go_ret
        exact ⟨char_good (n := 3) (by decide) hq3 hv.out, rfl⟩
  have r6 : 240 ≤ c := by omega
  by_cases r7 : c ≤ 244
  · by_cases x240 : c = 240
    · subst x240
      have hL : Hid (Lead (byteAt s 0).toNat 4 144 191) := by
        have hcc := hc.out
        refine ⟨by omega, by decide, ?_⟩
        have hf : Lib.firstT (byteAt s 0).toNat = 52 := by
          unfold Lib.firstT
          repeat' split
          all_goals first | rfl | omega
        rw [hf]
        decide
      go_enter Tryz.func69, Tryz.ntmps69
      go_wp2_with (rw [hc.out])
      go_loopw [5, 6, 7] (fun lo hi i wr => ∃ (l h : Int) (q : Nat), lo = .int .u8 l ∧ hi = .int .u8 h ∧ i = .int .i64 q ∧ 1 ≤ q ∧ q ≤ 4 ∧ q ≤ s.size ∧ Hid (q = 1 → l = 144 ∧ h = 191) ∧ Hid (q ≠ 1 → l = 128 ∧ h = 191) ∧ Hid (Sofar s 144 191 q) ∧ wr = w) (fun _ _ i _ => 4 - (intOf i).toNat)
      case atStart => exact ⟨_, _, 1, rfl, rfl, rfl, by omega, by omega, by omega, fun _ => ⟨rfl, rfl⟩, fun h => absurd rfl h, sofar_one s _ _, rfl⟩
      case round =>
        obtain ⟨l, h, q, rfl, rfl, rfl, hq1, hq2, hq3, h1, h2, hS, rfl⟩ := hrel
        by_cases hlt : q < 4
        · have hd : decide ((q : Int) < 4) = true := by simp; omega
          by_cases hend : q = s.size
          · have hb : ((q : Int) == (s.size : Int)) = true := by simp; omega
            have hv := hid_e (lead_bad H0.out hL.out (fun hC => by have := hC.1; omega))
            go_wp2
            go_ret
            exact ⟨char_bad (by decide) hv.out, rfl⟩
          · have hb : ((q : Int) == (s.size : Int)) = false := by simp; omega
            have hql : q < s.size := by omega
            have he := byteAt_eq hql
            obtain ⟨d, hd'⟩ : ∃ d : Int, Hid (((byteAt s q).toNat : Int) = d) := ⟨_, hid_e rfl⟩
            by_cases g1 : d < l
            · have hv := hid_e (lead_bad H0.out hL.out (not_chk h1.out h2.out ⟨hq1, hlt⟩ (by decide) hd'.out (.inl g1)))
              go_wp2_with (rw [hd'.out])
              go_ret
              exact ⟨char_bad (by decide) hv.out, rfl⟩
            · by_cases g2 : h < d
              · have hv := hid_e (lead_bad H0.out hL.out (not_chk h1.out h2.out ⟨hq1, hlt⟩ (by decide) hd'.out (.inr g2)))
                go_wp2_with (rw [hd'.out])
                go_ret
                exact ⟨char_bad (by decide) hv.out, rfl⟩
              · have hS' := hid_e (sofar_next hS.out h1.out h2.out ⟨hq1, by omega⟩ hd'.out g1 g2)
                go_wp2_with (rw [hd'.out])
                go_roundw
                case rel => exact ⟨128, 191, q + 1, rfl, rfl, by simp, by omega, by omega, by omega, fun h => by omega, fun _ => ⟨rfl, rfl⟩, hS', trivial⟩
                case measure => simp [intOf]; omega
        · obtain rfl : q = 4 := by omega
          have hv := hid_e (lead_good H0.out hL.out (chk_all hS.out (by decide) hq3))
          go_wp2
          go_ret
          exact ⟨char_good (n := 4) (by decide) hq3 hv.out, rfl⟩
    have q240 : (c == 240) = false := by simpa using x240
    by_cases x244 : c = 244
    · subst x244
      have hL : Hid (Lead (byteAt s 0).toNat 4 128 143) := by
        have hcc := hc.out
        refine ⟨by omega, by decide, ?_⟩
        have hf : Lib.firstT (byteAt s 0).toNat = 68 := by
          unfold Lib.firstT
          repeat' split
          all_goals first | rfl | omega
        rw [hf]
        decide
      go_enter Tryz.func69, Tryz.ntmps69
      go_wp2_with (rw [hc.out])
      go_loopw [5, 6, 7] (fun lo hi i wr => ∃ (l h : Int) (q : Nat), lo = .int .u8 l ∧ hi = .int .u8 h ∧ i = .int .i64 q ∧ 1 ≤ q ∧ q ≤ 4 ∧ q ≤ s.size ∧ Hid (q = 1 → l = 128 ∧ h = 143) ∧ Hid (q ≠ 1 → l = 128 ∧ h = 191) ∧ Hid (Sofar s 128 143 q) ∧ wr = w) (fun _ _ i _ => 4 - (intOf i).toNat)
      case atStart => exact ⟨_, _, 1, rfl, rfl, rfl, by omega, by omega, by omega, fun _ => ⟨rfl, rfl⟩, fun h => absurd rfl h, sofar_one s _ _, rfl⟩
      case round =>
        obtain ⟨l, h, q, rfl, rfl, rfl, hq1, hq2, hq3, h1, h2, hS, rfl⟩ := hrel
        by_cases hlt : q < 4
        · have hd : decide ((q : Int) < 4) = true := by simp; omega
          by_cases hend : q = s.size
          · have hb : ((q : Int) == (s.size : Int)) = true := by simp; omega
            have hv := hid_e (lead_bad H0.out hL.out (fun hC => by have := hC.1; omega))
            go_wp2
            go_ret
            exact ⟨char_bad (by decide) hv.out, rfl⟩
          · have hb : ((q : Int) == (s.size : Int)) = false := by simp; omega
            have hql : q < s.size := by omega
            have he := byteAt_eq hql
            obtain ⟨d, hd'⟩ : ∃ d : Int, Hid (((byteAt s q).toNat : Int) = d) := ⟨_, hid_e rfl⟩
            by_cases g1 : d < l
            · have hv := hid_e (lead_bad H0.out hL.out (not_chk h1.out h2.out ⟨hq1, hlt⟩ (by decide) hd'.out (.inl g1)))
              go_wp2_with (rw [hd'.out])
              go_ret
              exact ⟨char_bad (by decide) hv.out, rfl⟩
            · by_cases g2 : h < d
              · have hv := hid_e (lead_bad H0.out hL.out (not_chk h1.out h2.out ⟨hq1, hlt⟩ (by decide) hd'.out (.inr g2)))
                go_wp2_with (rw [hd'.out])
                go_ret
                exact ⟨char_bad (by decide) hv.out, rfl⟩
              · have hS' := hid_e (sofar_next hS.out h1.out h2.out ⟨hq1, by omega⟩ hd'.out g1 g2)
                go_wp2_with (rw [hd'.out])
                go_roundw
                case rel => exact ⟨128, 191, q + 1, rfl, rfl, by simp, by omega, by omega, by omega, fun h => by omega, fun _ => ⟨rfl, rfl⟩, hS', trivial⟩
                case measure => simp [intOf]; omega
        · obtain rfl : q = 4 := by omega
          have hv := hid_e (lead_good H0.out hL.out (chk_all hS.out (by decide) hq3))
          go_wp2
          go_ret
          exact ⟨char_good (n := 4) (by decide) hq3 hv.out, rfl⟩
    have q244 : (c == 244) = false := by simpa using x244
    have hL : Hid (Lead (byteAt s 0).toNat 4 128 191) := by
      have hcc := hc.out
      refine ⟨by omega, by decide, ?_⟩
      have hf : Lib.firstT (byteAt s 0).toNat = 4 := by
        unfold Lib.firstT
        repeat' split
        all_goals first | rfl | omega
      rw [hf]
      decide
    go_enter Tryz.func69, Tryz.ntmps69
    go_wp2_with (rw [hc.out])
    go_loopw [5, 6, 7] (fun lo hi i wr => ∃ (l h : Int) (q : Nat), lo = .int .u8 l ∧ hi = .int .u8 h ∧ i = .int .i64 q ∧ 1 ≤ q ∧ q ≤ 4 ∧ q ≤ s.size ∧ Hid (q = 1 → l = 128 ∧ h = 191) ∧ Hid (q ≠ 1 → l = 128 ∧ h = 191) ∧ Hid (Sofar s 128 191 q) ∧ wr = w) (fun _ _ i _ => 4 - (intOf i).toNat)
    case atStart => exact ⟨_, _, 1, rfl, rfl, rfl, by omega, by omega, by omega, fun _ => ⟨rfl, rfl⟩, fun h => absurd rfl h, sofar_one s _ _, rfl⟩
    case round =>
      obtain ⟨l, h, q, rfl, rfl, rfl, hq1, hq2, hq3, h1, h2, hS, rfl⟩ := hrel
      by_cases hlt : q < 4
      · have hd : decide ((q : Int) < 4) = true := by simp; omega
        by_cases hend : q = s.size
        · have hb : ((q : Int) == (s.size : Int)) = true := by simp; omega
          have hv := hid_e (lead_bad H0.out hL.out (fun hC => by have := hC.1; omega))
          go_wp2
          go_ret
          exact ⟨char_bad (by decide) hv.out, rfl⟩
        · have hb : ((q : Int) == (s.size : Int)) = false := by simp; omega
          have hql : q < s.size := by omega
          have he := byteAt_eq hql
          obtain ⟨d, hd'⟩ : ∃ d : Int, Hid (((byteAt s q).toNat : Int) = d) := ⟨_, hid_e rfl⟩
          by_cases g1 : d < l
          · have hv := hid_e (lead_bad H0.out hL.out (not_chk h1.out h2.out ⟨hq1, hlt⟩ (by decide) hd'.out (.inl g1)))
            go_wp2_with (rw [hd'.out])
            go_ret
            exact ⟨char_bad (by decide) hv.out, rfl⟩
          · by_cases g2 : h < d
            · have hv := hid_e (lead_bad H0.out hL.out (not_chk h1.out h2.out ⟨hq1, hlt⟩ (by decide) hd'.out (.inr g2)))
              go_wp2_with (rw [hd'.out])
              go_ret
              exact ⟨char_bad (by decide) hv.out, rfl⟩
            · have hS' := hid_e (sofar_next hS.out h1.out h2.out ⟨hq1, by omega⟩ hd'.out g1 g2)
              go_wp2_with (rw [hd'.out])
              go_roundw
              case rel => exact ⟨128, 191, q + 1, rfl, rfl, by simp, by omega, by omega, by omega, fun h => by omega, fun _ => ⟨rfl, rfl⟩, hS', trivial⟩
              case measure => simp [intOf]; omega
      · obtain rfl : q = 4 := by omega
        have hv := hid_e (lead_good H0.out hL.out (chk_all hS.out (by decide) hq3))
        go_wp2
        go_ret
        exact ⟨char_good (n := 4) (by decide) hq3 hv.out, rfl⟩
  have hv := hid_e (lead_none H0.out (by have := hc.out; omega))
  go_enter Tryz.func69, Tryz.ntmps69
  go_wp2_with (rw [hc.out])
  go_ret
  exact ⟨char_bad (by decide) hv.out, rfl⟩
set_option maxHeartbeats 1000000 in
set_option maxRecDepth 100000 in
theorem dclean_code (s : ByteArray) (hs : s.size ≤ 9223372036854775806) (w : World) : Calls Tryz.prog 60 #[.string s] w fun e w' => e = .returned (.bool (Lib.validD s.data.toList)) ∧ w' = w := by
  obtain ⟨R, hR⟩ : ∃ R, Hid (Lib.validD s.data.toList = R) := ⟨_, hid_e rfl⟩
  rw [hR.out]
  go_enter Tryz.func60, Tryz.ntmps60
  go_wp2
  go_loopw [0] (fun v wr => ∃ u : ByteArray, v = .string u ∧ u.size ≤ s.size ∧ Hid (Lib.validD u.data.toList = R) ∧ wr = w) (fun v _ => (match v with | .string u => u.size | _ => 0))
  case atStart => exact ⟨s, rfl, by omega, hR, rfl⟩
  case round =>
    obtain ⟨u, rfl, hu, hV, rfl⟩ := hrel
    by_cases h0 : u.size = 0
    · have hz : u = ⟨#[]⟩ := ByteArray.ext (Array.eq_empty_of_size_eq_zero h0)
      subst hz
      obtain rfl : R = true := hV.out.symm
      go_wp2
      go_ret
      exact ⟨rfl, rfl⟩
    · have hne := not_empty h0
      go_wp2_with fail
      refine (character_code u h0 (by omega) _).mono ?_
      rintro e w1 ⟨⟨z, rfl, hz1, hz2⟩, rfl⟩
      replace hz2 := hid_e hz2
      by_cases hz : z ≤ 0
      · obtain rfl : R = false := by
          rcases hz2.out with h | h
          · rw [← hV.out, h.2]
          · omega
        go_wp2
        go_ret
        exact ⟨rfl, rfl⟩
      · obtain ⟨n, rfl⟩ : ∃ n : Nat, z = n := ⟨z.toNat, by omega⟩
        have i1 : (0 : Int) ≤ (n : Int) := by omega
        have hV' : Hid (Lib.validD (u.extract n u.size).data.toList = R) := by
          rcases hz2.out with h | h
          · omega
          · rw [Hid, ← hV.out, h.2, Int.toNat_natCast]
            congr 1
            simp [ByteArray.data_extract]
            exact List.take_of_length_le (by rw [List.length_drop, size_toList]; exact Nat.le_refl _)
        go_wp2
        go_roundw
        case rel => exact ⟨_, rfl, by simp; omega, hV', trivial⟩
        case measure => simp; omega
end Go.Proofs.YtgjemghfejaifaaGreatDoor.Chk
