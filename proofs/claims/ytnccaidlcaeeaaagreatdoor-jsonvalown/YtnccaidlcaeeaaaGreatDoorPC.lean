import Derived.Test.YtnccaidlcaeeaaaGreatDoorPA
import Derived.Lib.ValidLaws
import Derived.Deep.DeepCutAuto
/-! The document's Character: what it tells, exactly. -/
namespace Go.Proofs.YtnccaidlcaeeaaaGreatDoor.Tree
open Go Go.RowKit

theorem not_empty {s : ByteArray} (h : ¬ s.size = 0) : s.toList.isEmpty = false := by
  rw [Bool.eq_false_iff]
  intro e
  have e1 : s.toList = (⟨#[]⟩ : ByteArray).toList := by rw [List.isEmpty_iff.1 e]; rw [ByteArray.toList, ByteArray.toList.loop]; simp [ByteArray.size]
  have e2 : (s.toList == (⟨#[]⟩ : ByteArray).toList) = true := by rw [e1]; simp
  rw [str_same] at e2
  have e3 : s = ⟨#[]⟩ := by simpa using e2
  rw [e3] at h
  exact h rfl
def bt (s : ByteArray) (i : Nat) : Int := ((byteAt s i).toNat : Int)
theorem getD_bt (s : ByteArray) (i : Nat) : (((s.data.toList.getD i 0).toNat : Nat) : Int) = bt s i := by
  unfold bt byteAt
  rw [List.getD_eq_getElem?_getD, Array.getElem?_toList, Array.getD_eq_getD_getElem?]
theorem size_toList (s : ByteArray) : s.data.toList.length = s.size := by rw [Array.length_toList]; rfl
/-- The bytes behind the lead byte are as they must be. -/
def Chk (s : ByteArray) (n : Nat) (lo hi : Int) : Prop := n ≤ s.size ∧ (lo ≤ bt s 1 ∧ bt s 1 ≤ hi) ∧ (3 ≤ n → 128 ≤ bt s 2 ∧ bt s 2 ≤ 191) ∧ (4 ≤ n → 128 ≤ bt s 3 ∧ bt s 3 ≤ 191)
/-- What the lead byte asks. -/
def Lead (b n lo hi : Nat) : Prop := 128 ≤ b ∧ (n = 2 ∨ n = 3 ∨ n = 4) ∧ Lib.firstT b % 8 = n ∧ Lib.accLo (Lib.firstT b / 16) = lo ∧ Lib.accHi (Lib.firstT b / 16) = hi
/-- What the loop has seen so far. -/
def Sofar (s : ByteArray) (lo hi : Int) (q : Nat) : Prop := (1 < q → lo ≤ bt s 1 ∧ bt s 1 ≤ hi) ∧ (2 < q → 128 ≤ bt s 2 ∧ bt s 2 ≤ 191) ∧ (3 < q → 128 ≤ bt s 3 ∧ bt s 3 ≤ 191)
theorem sofar_one (s : ByteArray) (lo hi : Int) : Sofar s lo hi 1 := ⟨fun h => absurd h (by decide), fun h => absurd h (by decide), fun h => absurd h (by decide)⟩
theorem sofar_next {s : ByteArray} {lo hi l h d : Int} {q : Nat} (hS : Sofar s lo hi q) (h1 : q = 1 → l = lo ∧ h = hi) (h2 : q ≠ 1 → l = 128 ∧ h = 191) (hq : 1 ≤ q ∧ q ≤ 3) (hd : bt s q = d) (g1 : ¬ d < l) (g2 : ¬ h < d) : Sofar s lo hi (q + 1) := by
  subst hd
  obtain ⟨s1, s2, s3⟩ := hS
  have : q = 1 ∨ q = 2 ∨ q = 3 := by omega
  rcases this with rfl | rfl | rfl
  · obtain ⟨rfl, rfl⟩ := h1 rfl
    exact ⟨fun _ => ⟨by omega, by omega⟩, fun h => absurd h (by decide), fun h => absurd h (by decide)⟩
  · obtain ⟨rfl, rfl⟩ := h2 (by decide)
    exact ⟨fun _ => s1 (by decide), fun _ => ⟨by omega, by omega⟩, fun h => absurd h (by decide)⟩
  · obtain ⟨rfl, rfl⟩ := h2 (by decide)
    exact ⟨fun _ => s1 (by decide), fun _ => s2 (by decide), fun _ => ⟨by omega, by omega⟩⟩
/-- A byte that may not stand there. -/
def Bad (s : ByteArray) (lo hi : Int) (q : Nat) : Prop := (q = 1 ∧ (bt s 1 < lo ∨ hi < bt s 1)) ∨ (q = 2 ∧ (bt s 2 < 128 ∨ 191 < bt s 2)) ∨ (q = 3 ∧ (bt s 3 < 128 ∨ 191 < bt s 3))
def NoLead (b : Nat) : Prop := (128 ≤ b ∧ b < 194) ∨ 245 ≤ b
/-- What Character tells. -/
def CharIs (s : ByteArray) (z : Int) : Prop :=
  (bt s 0 < 128 ∧ z = 1) ∨ (∃ N lo hi : Nat, Lead (byteAt s 0).toNat N lo hi ∧ ((z = N ∧ Chk s N lo hi) ∨ (z = -1 ∧ s.size < N ∧ Sofar s lo hi s.size) ∨ (z = 0 ∧ ∃ q, 1 ≤ q ∧ q < N ∧ q < s.size ∧ Sofar s lo hi q ∧ Bad s lo hi q))) ∨ (NoLead (byteAt s 0).toNat ∧ z = 0)
def CharPost (s : ByteArray) (e : Ending) : Prop := ∃ z : Int, e = .returned (.int .i64 z) ∧ CharIs s z
theorem bad_of {s : ByteArray} {lo hi l h d : Int} {q : Nat} (h1 : q = 1 → l = lo ∧ h = hi) (h2 : q ≠ 1 → l = 128 ∧ h = 191) (hq : 1 ≤ q ∧ q ≤ 3) (hd : bt s q = d) (g : d < l ∨ h < d) : Bad s lo hi q := by
  subst hd
  have : q = 1 ∨ q = 2 ∨ q = 3 := by omega
  rcases this with rfl | rfl | rfl
  · obtain ⟨rfl, rfl⟩ := h1 rfl
    exact .inl ⟨rfl, g⟩
  · obtain ⟨rfl, rfl⟩ := h2 (by decide)
    exact .inr (.inl ⟨rfl, g⟩)
  · obtain ⟨rfl, rfl⟩ := h2 (by decide)
    exact .inr (.inr ⟨rfl, g⟩)
theorem chk_all {s : ByteArray} {n : Nat} {lo hi : Int} (hS : Sofar s lo hi n) (hn : 2 ≤ n) (hs : n ≤ s.size) : Chk s n lo hi :=
  ⟨hs, hS.1 (by omega), fun h => hS.2.1 (by omega), fun h => hS.2.2 (by omega)⟩

set_option maxHeartbeats 4000000 in
set_option maxRecDepth 100000 in
theorem character_code (s : ByteArray) (h0 : ¬ s.size = 0) (hs : s.size ≤ 9223372036854775806) (w : World) : Calls Tryz.prog 55 #[.string s] w fun e w' => CharPost s e ∧ w' = w := by
  have hne := not_empty h0
  have H0 := hid_e h0
  have e0 := byteAt_eq (show 0 < s.size by omega)
  have hs1 : (1 : Int) ≤ s.size := by omega
  obtain ⟨c, hc⟩ : ∃ c : Int, Hid (((byteAt s 0).toNat : Int) = c) := ⟨_, hid_e rfl⟩
  have hc0 : 0 ≤ c := by rw [← hc.out]; omega
  have hc1 : c ≤ 255 := by rw [← hc.out]; have := (byteAt s 0).toNat_lt; omega
  by_cases r1 : c < 128
  · have hv : Hid (CharIs s 1) := .inl ⟨by unfold bt; rw [hc.out]; exact r1, rfl⟩
    go_enter Tryz.func55, Tryz.ntmps55
    go_wp2_with (rw [hc.out])
    go_ret
    exact ⟨⟨_, rfl, hv.out⟩, rfl⟩
  by_cases r2 : 194 ≤ c
  rotate_left
  · have r3 : ¬ 224 ≤ c := by omega
    have r4 : ¬ 240 ≤ c := by omega
    have hv : Hid (CharIs s 0) := .inr (.inr ⟨by unfold NoLead; have := hc.out; omega, rfl⟩)
    go_enter Tryz.func55, Tryz.ntmps55
    go_wp2_with (rw [hc.out])
    go_ret
    exact ⟨⟨_, rfl, hv.out⟩, rfl⟩
  by_cases r3 : c ≤ 223
  · skip
    have hL : Hid (Lead (byteAt s 0).toNat 2 128 191) := by
      have hcc := hc.out
      refine ⟨by omega, by decide, ?_⟩
      have hf : Lib.firstT (byteAt s 0).toNat = 2 := by
        unfold Lib.firstT
        repeat' split
        all_goals first | rfl | omega
      rw [hf]
      decide
    go_enter Tryz.func55, Tryz.ntmps55
    go_wp2_with (rw [hc.out])
    go_loopw [5, 6, 7] (fun lo hi i wr => ∃ (l h : Int) (q : Nat), lo = .int .u8 l ∧ hi = .int .u8 h ∧ i = .int .i64 q ∧ 1 ≤ q ∧ q ≤ 2 ∧ q ≤ s.size ∧ Hid (q = 1 → l = 128 ∧ h = 191) ∧ Hid (q ≠ 1 → l = 128 ∧ h = 191) ∧ Hid (Sofar s 128 191 q) ∧ wr = w) (fun _ _ i _ => 2 - (intOf i).toNat)
    case atStart => exact ⟨_, _, 1, rfl, rfl, rfl, by omega, by omega, by omega, fun _ => ⟨rfl, rfl⟩, fun h => absurd rfl h, sofar_one s _ _, rfl⟩
    case round =>
      obtain ⟨l, h, q, rfl, rfl, rfl, hq1, hq2, hq3, h1, h2, hS, rfl⟩ := hrel
      by_cases hlt : q < 2
      · have hd : decide ((q : Int) < 2) = true := by simp; omega
        by_cases hend : q = s.size
        · have hb : ((q : Int) == (s.size : Int)) = true := by simp; omega
          have hv : Hid (CharIs s (-1)) := .inr (.inl ⟨_, _, _, hL.out, .inr (.inl ⟨rfl, by omega, by rw [← hend]; exact hS.out⟩)⟩)
          go_wp2
          go_ret
          exact ⟨⟨_, rfl, hv.out⟩, rfl⟩
        · have hb : ((q : Int) == (s.size : Int)) = false := by simp; omega
          have hql : q < s.size := by omega
          have he := byteAt_eq hql
          obtain ⟨d, hd'⟩ : ∃ d : Int, Hid (((byteAt s q).toNat : Int) = d) := ⟨_, hid_e rfl⟩
          by_cases g1 : d < l
          · have hv : Hid (CharIs s 0) := .inr (.inl ⟨_, _, _, hL.out, .inr (.inr ⟨rfl, q, hq1, hlt, hql, hS.out, bad_of h1.out h2.out ⟨hq1, by omega⟩ hd'.out (.inl g1)⟩)⟩)
            go_wp2_with (rw [hd'.out])
            go_ret
            exact ⟨⟨_, rfl, hv.out⟩, rfl⟩
          · by_cases g2 : h < d
            · have hv : Hid (CharIs s 0) := .inr (.inl ⟨_, _, _, hL.out, .inr (.inr ⟨rfl, q, hq1, hlt, hql, hS.out, bad_of h1.out h2.out ⟨hq1, by omega⟩ hd'.out (.inr g2)⟩)⟩)
              go_wp2_with (rw [hd'.out])
              go_ret
              exact ⟨⟨_, rfl, hv.out⟩, rfl⟩
            · have hS' := hid_e (sofar_next hS.out h1.out h2.out ⟨hq1, by omega⟩ hd'.out g1 g2)
              go_wp2_with (rw [hd'.out])
              go_roundw
              case rel => exact ⟨128, 191, q + 1, rfl, rfl, by simp, by omega, by omega, by omega, fun h => by omega, fun _ => ⟨rfl, rfl⟩, hS', trivial⟩
              case measure => simp [intOf]; omega
      · obtain rfl : q = 2 := by omega
        have hv : Hid (CharIs s 2) := .inr (.inl ⟨_, _, _, hL.out, .inl ⟨rfl, chk_all hS.out (by decide) hq3⟩⟩)
        go_wp2
        go_ret
        exact ⟨⟨_, rfl, hv.out⟩, rfl⟩
  have r4 : 224 ≤ c := by omega
  by_cases r5 : c ≤ 239
  · by_cases x224 : c = 224
    · subst x224
      have hL : Hid (Lead (byteAt s 0).toNat 3 160 191) := by
        have hcc := hc.out
        refine ⟨by omega, by decide, ?_⟩
        have hf : Lib.firstT (byteAt s 0).toNat = 19 := by
          unfold Lib.firstT
          repeat' split
          all_goals first | rfl | omega
        rw [hf]
        decide
      go_enter Tryz.func55, Tryz.ntmps55
      go_wp2_with (rw [hc.out])
      go_loopw [5, 6, 7] (fun lo hi i wr => ∃ (l h : Int) (q : Nat), lo = .int .u8 l ∧ hi = .int .u8 h ∧ i = .int .i64 q ∧ 1 ≤ q ∧ q ≤ 3 ∧ q ≤ s.size ∧ Hid (q = 1 → l = 160 ∧ h = 191) ∧ Hid (q ≠ 1 → l = 128 ∧ h = 191) ∧ Hid (Sofar s 160 191 q) ∧ wr = w) (fun _ _ i _ => 3 - (intOf i).toNat)
      case atStart => exact ⟨_, _, 1, rfl, rfl, rfl, by omega, by omega, by omega, fun _ => ⟨rfl, rfl⟩, fun h => absurd rfl h, sofar_one s _ _, rfl⟩
      case round =>
        obtain ⟨l, h, q, rfl, rfl, rfl, hq1, hq2, hq3, h1, h2, hS, rfl⟩ := hrel
        by_cases hlt : q < 3
        · have hd : decide ((q : Int) < 3) = true := by simp; omega
          by_cases hend : q = s.size
          · have hb : ((q : Int) == (s.size : Int)) = true := by simp; omega
            have hv : Hid (CharIs s (-1)) := .inr (.inl ⟨_, _, _, hL.out, .inr (.inl ⟨rfl, by omega, by rw [← hend]; exact hS.out⟩)⟩)
            go_wp2
            go_ret
            exact ⟨⟨_, rfl, hv.out⟩, rfl⟩
          · have hb : ((q : Int) == (s.size : Int)) = false := by simp; omega
            have hql : q < s.size := by omega
            have he := byteAt_eq hql
            obtain ⟨d, hd'⟩ : ∃ d : Int, Hid (((byteAt s q).toNat : Int) = d) := ⟨_, hid_e rfl⟩
            by_cases g1 : d < l
            · have hv : Hid (CharIs s 0) := .inr (.inl ⟨_, _, _, hL.out, .inr (.inr ⟨rfl, q, hq1, hlt, hql, hS.out, bad_of h1.out h2.out ⟨hq1, by omega⟩ hd'.out (.inl g1)⟩)⟩)
              go_wp2_with (rw [hd'.out])
              go_ret
              exact ⟨⟨_, rfl, hv.out⟩, rfl⟩
            · by_cases g2 : h < d
              · have hv : Hid (CharIs s 0) := .inr (.inl ⟨_, _, _, hL.out, .inr (.inr ⟨rfl, q, hq1, hlt, hql, hS.out, bad_of h1.out h2.out ⟨hq1, by omega⟩ hd'.out (.inr g2)⟩)⟩)
                go_wp2_with (rw [hd'.out])
                go_ret
                exact ⟨⟨_, rfl, hv.out⟩, rfl⟩
              · have hS' := hid_e (sofar_next hS.out h1.out h2.out ⟨hq1, by omega⟩ hd'.out g1 g2)
                go_wp2_with (rw [hd'.out])
                go_roundw
                case rel => exact ⟨128, 191, q + 1, rfl, rfl, by simp, by omega, by omega, by omega, fun h => by omega, fun _ => ⟨rfl, rfl⟩, hS', trivial⟩
                case measure => simp [intOf]; omega
        · obtain rfl : q = 3 := by omega
          have hv : Hid (CharIs s 3) := .inr (.inl ⟨_, _, _, hL.out, .inl ⟨rfl, chk_all hS.out (by decide) hq3⟩⟩)
          go_wp2
          go_ret
          exact ⟨⟨_, rfl, hv.out⟩, rfl⟩
    have q224 : (c == 224) = false := by simpa using x224
    by_cases x237 : c = 237
    · subst x237
      have hL : Hid (Lead (byteAt s 0).toNat 3 128 159) := by
        have hcc := hc.out
        refine ⟨by omega, by decide, ?_⟩
        have hf : Lib.firstT (byteAt s 0).toNat = 35 := by
          unfold Lib.firstT
          repeat' split
          all_goals first | rfl | omega
        rw [hf]
        decide
      go_enter Tryz.func55, Tryz.ntmps55
      go_wp2_with (rw [hc.out])
      go_loopw [5, 6, 7] (fun lo hi i wr => ∃ (l h : Int) (q : Nat), lo = .int .u8 l ∧ hi = .int .u8 h ∧ i = .int .i64 q ∧ 1 ≤ q ∧ q ≤ 3 ∧ q ≤ s.size ∧ Hid (q = 1 → l = 128 ∧ h = 159) ∧ Hid (q ≠ 1 → l = 128 ∧ h = 191) ∧ Hid (Sofar s 128 159 q) ∧ wr = w) (fun _ _ i _ => 3 - (intOf i).toNat)
      case atStart => exact ⟨_, _, 1, rfl, rfl, rfl, by omega, by omega, by omega, fun _ => ⟨rfl, rfl⟩, fun h => absurd rfl h, sofar_one s _ _, rfl⟩
      case round =>
        obtain ⟨l, h, q, rfl, rfl, rfl, hq1, hq2, hq3, h1, h2, hS, rfl⟩ := hrel
        by_cases hlt : q < 3
        · have hd : decide ((q : Int) < 3) = true := by simp; omega
          by_cases hend : q = s.size
          · have hb : ((q : Int) == (s.size : Int)) = true := by simp; omega
            have hv : Hid (CharIs s (-1)) := .inr (.inl ⟨_, _, _, hL.out, .inr (.inl ⟨rfl, by omega, by rw [← hend]; exact hS.out⟩)⟩)
            go_wp2
            go_ret
            exact ⟨⟨_, rfl, hv.out⟩, rfl⟩
          · have hb : ((q : Int) == (s.size : Int)) = false := by simp; omega
            have hql : q < s.size := by omega
            have he := byteAt_eq hql
            obtain ⟨d, hd'⟩ : ∃ d : Int, Hid (((byteAt s q).toNat : Int) = d) := ⟨_, hid_e rfl⟩
            by_cases g1 : d < l
            · have hv : Hid (CharIs s 0) := .inr (.inl ⟨_, _, _, hL.out, .inr (.inr ⟨rfl, q, hq1, hlt, hql, hS.out, bad_of h1.out h2.out ⟨hq1, by omega⟩ hd'.out (.inl g1)⟩)⟩)
              go_wp2_with (rw [hd'.out])
              go_ret
              exact ⟨⟨_, rfl, hv.out⟩, rfl⟩
            · by_cases g2 : h < d
              · have hv : Hid (CharIs s 0) := .inr (.inl ⟨_, _, _, hL.out, .inr (.inr ⟨rfl, q, hq1, hlt, hql, hS.out, bad_of h1.out h2.out ⟨hq1, by omega⟩ hd'.out (.inr g2)⟩)⟩)
                go_wp2_with (rw [hd'.out])
                go_ret
                exact ⟨⟨_, rfl, hv.out⟩, rfl⟩
              · have hS' := hid_e (sofar_next hS.out h1.out h2.out ⟨hq1, by omega⟩ hd'.out g1 g2)
                go_wp2_with (rw [hd'.out])
                go_roundw
                case rel => exact ⟨128, 191, q + 1, rfl, rfl, by simp, by omega, by omega, by omega, fun h => by omega, fun _ => ⟨rfl, rfl⟩, hS', trivial⟩
                case measure => simp [intOf]; omega
        · obtain rfl : q = 3 := by omega
          have hv : Hid (CharIs s 3) := .inr (.inl ⟨_, _, _, hL.out, .inl ⟨rfl, chk_all hS.out (by decide) hq3⟩⟩)
          go_wp2
          go_ret
          exact ⟨⟨_, rfl, hv.out⟩, rfl⟩
    have q237 : (c == 237) = false := by simpa using x237
    have hL : Hid (Lead (byteAt s 0).toNat 3 128 191) := by
      have hcc := hc.out
      refine ⟨by omega, by decide, ?_⟩
      have hf : Lib.firstT (byteAt s 0).toNat = 3 := by
        unfold Lib.firstT
        repeat' split
        all_goals first | rfl | omega
      rw [hf]
      decide
    go_enter Tryz.func55, Tryz.ntmps55
    go_wp2_with (rw [hc.out])
    go_loopw [5, 6, 7] (fun lo hi i wr => ∃ (l h : Int) (q : Nat), lo = .int .u8 l ∧ hi = .int .u8 h ∧ i = .int .i64 q ∧ 1 ≤ q ∧ q ≤ 3 ∧ q ≤ s.size ∧ Hid (q = 1 → l = 128 ∧ h = 191) ∧ Hid (q ≠ 1 → l = 128 ∧ h = 191) ∧ Hid (Sofar s 128 191 q) ∧ wr = w) (fun _ _ i _ => 3 - (intOf i).toNat)
    case atStart => exact ⟨_, _, 1, rfl, rfl, rfl, by omega, by omega, by omega, fun _ => ⟨rfl, rfl⟩, fun h => absurd rfl h, sofar_one s _ _, rfl⟩
    case round =>
      obtain ⟨l, h, q, rfl, rfl, rfl, hq1, hq2, hq3, h1, h2, hS, rfl⟩ := hrel
      by_cases hlt : q < 3
      · have hd : decide ((q : Int) < 3) = true := by simp; omega
        by_cases hend : q = s.size
        · have hb : ((q : Int) == (s.size : Int)) = true := by simp; omega
          have hv : Hid (CharIs s (-1)) := .inr (.inl ⟨_, _, _, hL.out, .inr (.inl ⟨rfl, by omega, by rw [← hend]; exact hS.out⟩)⟩)
          go_wp2
          go_ret
          exact ⟨⟨_, rfl, hv.out⟩, rfl⟩
        · have hb : ((q : Int) == (s.size : Int)) = false := by simp; omega
          have hql : q < s.size := by omega
          have he := byteAt_eq hql
          obtain ⟨d, hd'⟩ : ∃ d : Int, Hid (((byteAt s q).toNat : Int) = d) := ⟨_, hid_e rfl⟩
          by_cases g1 : d < l
          · have hv : Hid (CharIs s 0) := .inr (.inl ⟨_, _, _, hL.out, .inr (.inr ⟨rfl, q, hq1, hlt, hql, hS.out, bad_of h1.out h2.out ⟨hq1, by omega⟩ hd'.out (.inl g1)⟩)⟩)
            go_wp2_with (rw [hd'.out])
            go_ret
            exact ⟨⟨_, rfl, hv.out⟩, rfl⟩
          · by_cases g2 : h < d
            · have hv : Hid (CharIs s 0) := .inr (.inl ⟨_, _, _, hL.out, .inr (.inr ⟨rfl, q, hq1, hlt, hql, hS.out, bad_of h1.out h2.out ⟨hq1, by omega⟩ hd'.out (.inr g2)⟩)⟩)
              go_wp2_with (rw [hd'.out])
              go_ret
              exact ⟨⟨_, rfl, hv.out⟩, rfl⟩
            · have hS' := hid_e (sofar_next hS.out h1.out h2.out ⟨hq1, by omega⟩ hd'.out g1 g2)
              go_wp2_with (rw [hd'.out])
              go_roundw
              case rel => exact ⟨128, 191, q + 1, rfl, rfl, by simp, by omega, by omega, by omega, fun h => by omega, fun _ => ⟨rfl, rfl⟩, hS', trivial⟩
              case measure => simp [intOf]; omega
      · obtain rfl : q = 3 := by omega
        have hv : Hid (CharIs s 3) := .inr (.inl ⟨_, _, _, hL.out, .inl ⟨rfl, chk_all hS.out (by decide) hq3⟩⟩)
        go_wp2
        go_ret
        exact ⟨⟨_, rfl, hv.out⟩, rfl⟩
  have r6 : 240 ≤ c := by omega
  by_cases r7 : c ≤ 244
  · by_cases x240 : c = 240
    · subst x240
      have hL : Hid (Lead (byteAt s 0).toNat 4 144 191) := by
        have hcc := hc.out
        refine ⟨by omega, by decide, ?_⟩
        have hf : Lib.firstT (byteAt s 0).toNat = 52 := by
          unfold Lib.firstT
          repeat' split
          all_goals first | rfl | omega
        rw [hf]
        decide
      go_enter Tryz.func55, Tryz.ntmps55
      go_wp2_with (rw [hc.out])
      go_loopw [5, 6, 7] (fun lo hi i wr => ∃ (l h : Int) (q : Nat), lo = .int .u8 l ∧ hi = .int .u8 h ∧ i = .int .i64 q ∧ 1 ≤ q ∧ q ≤ 4 ∧ q ≤ s.size ∧ Hid (q = 1 → l = 144 ∧ h = 191) ∧ Hid (q ≠ 1 → l = 128 ∧ h = 191) ∧ Hid (Sofar s 144 191 q) ∧ wr = w) (fun _ _ i _ => 4 - (intOf i).toNat)
      case atStart => exact ⟨_, _, 1, rfl, rfl, rfl, by omega, by omega, by omega, fun _ => ⟨rfl, rfl⟩, fun h => absurd rfl h, sofar_one s _ _, rfl⟩
      case round =>
        obtain ⟨l, h, q, rfl, rfl, rfl, hq1, hq2, hq3, h1, h2, hS, rfl⟩ := hrel
        by_cases hlt : q < 4
        · have hd : decide ((q : Int) < 4) = true := by simp; omega
          by_cases hend : q = s.size
          · have hb : ((q : Int) == (s.size : Int)) = true := by simp; omega
            have hv : Hid (CharIs s (-1)) := .inr (.inl ⟨_, _, _, hL.out, .inr (.inl ⟨rfl, by omega, by rw [← hend]; exact hS.out⟩)⟩)
            go_wp2
            go_ret
            exact ⟨⟨_, rfl, hv.out⟩, rfl⟩
          · have hb : ((q : Int) == (s.size : Int)) = false := by simp; omega
            have hql : q < s.size := by omega
            have he := byteAt_eq hql
            obtain ⟨d, hd'⟩ : ∃ d : Int, Hid (((byteAt s q).toNat : Int) = d) := ⟨_, hid_e rfl⟩
            by_cases g1 : d < l
            · have hv : Hid (CharIs s 0) := .inr (.inl ⟨_, _, _, hL.out, .inr (.inr ⟨rfl, q, hq1, hlt, hql, hS.out, bad_of h1.out h2.out ⟨hq1, by omega⟩ hd'.out (.inl g1)⟩)⟩)
              go_wp2_with (rw [hd'.out])
              go_ret
              exact ⟨⟨_, rfl, hv.out⟩, rfl⟩
            · by_cases g2 : h < d
              · have hv : Hid (CharIs s 0) := .inr (.inl ⟨_, _, _, hL.out, .inr (.inr ⟨rfl, q, hq1, hlt, hql, hS.out, bad_of h1.out h2.out ⟨hq1, by omega⟩ hd'.out (.inr g2)⟩)⟩)
                go_wp2_with (rw [hd'.out])
                go_ret
                exact ⟨⟨_, rfl, hv.out⟩, rfl⟩
              · have hS' := hid_e (sofar_next hS.out h1.out h2.out ⟨hq1, by omega⟩ hd'.out g1 g2)
                go_wp2_with (rw [hd'.out])
                go_roundw
                case rel => exact ⟨128, 191, q + 1, rfl, rfl, by simp, by omega, by omega, by omega, fun h => by omega, fun _ => ⟨rfl, rfl⟩, hS', trivial⟩
                case measure => simp [intOf]; omega
        · obtain rfl : q = 4 := by omega
          have hv : Hid (CharIs s 4) := .inr (.inl ⟨_, _, _, hL.out, .inl ⟨rfl, chk_all hS.out (by decide) hq3⟩⟩)
          go_wp2
          go_ret
          exact ⟨⟨_, rfl, hv.out⟩, rfl⟩
    have q240 : (c == 240) = false := by simpa using x240
    by_cases x244 : c = 244
    · subst x244
      have hL : Hid (Lead (byteAt s 0).toNat 4 128 143) := by
        have hcc := hc.out
        refine ⟨by omega, by decide, ?_⟩
        have hf : Lib.firstT (byteAt s 0).toNat = 68 := by
          unfold Lib.firstT
          repeat' split
          all_goals first | rfl | omega
        rw [hf]
        decide
      go_enter Tryz.func55, Tryz.ntmps55
      go_wp2_with (rw [hc.out])
      go_loopw [5, 6, 7] (fun lo hi i wr => ∃ (l h : Int) (q : Nat), lo = .int .u8 l ∧ hi = .int .u8 h ∧ i = .int .i64 q ∧ 1 ≤ q ∧ q ≤ 4 ∧ q ≤ s.size ∧ Hid (q = 1 → l = 128 ∧ h = 143) ∧ Hid (q ≠ 1 → l = 128 ∧ h = 191) ∧ Hid (Sofar s 128 143 q) ∧ wr = w) (fun _ _ i _ => 4 - (intOf i).toNat)
      case atStart => exact ⟨_, _, 1, rfl, rfl, rfl, by omega, by omega, by omega, fun _ => ⟨rfl, rfl⟩, fun h => absurd rfl h, sofar_one s _ _, rfl⟩
      case round =>
        obtain ⟨l, h, q, rfl, rfl, rfl, hq1, hq2, hq3, h1, h2, hS, rfl⟩ := hrel
        by_cases hlt : q < 4
        · have hd : decide ((q : Int) < 4) = true := by simp; omega
          by_cases hend : q = s.size
          · have hb : ((q : Int) == (s.size : Int)) = true := by simp; omega
            have hv : Hid (CharIs s (-1)) := .inr (.inl ⟨_, _, _, hL.out, .inr (.inl ⟨rfl, by omega, by rw [← hend]; exact hS.out⟩)⟩)
            go_wp2
            go_ret
            exact ⟨⟨_, rfl, hv.out⟩, rfl⟩
          · have hb : ((q : Int) == (s.size : Int)) = false := by simp; omega
            have hql : q < s.size := by omega
            have he := byteAt_eq hql
            obtain ⟨d, hd'⟩ : ∃ d : Int, Hid (((byteAt s q).toNat : Int) = d) := ⟨_, hid_e rfl⟩
            by_cases g1 : d < l
            · have hv : Hid (CharIs s 0) := .inr (.inl ⟨_, _, _, hL.out, .inr (.inr ⟨rfl, q, hq1, hlt, hql, hS.out, bad_of h1.out h2.out ⟨hq1, by omega⟩ hd'.out (.inl g1)⟩)⟩)
              go_wp2_with (rw [hd'.out])
              go_ret
              exact ⟨⟨_, rfl, hv.out⟩, rfl⟩
            · by_cases g2 : h < d
              · have hv : Hid (CharIs s 0) := .inr (.inl ⟨_, _, _, hL.out, .inr (.inr ⟨rfl, q, hq1, hlt, hql, hS.out, bad_of h1.out h2.out ⟨hq1, by omega⟩ hd'.out (.inr g2)⟩)⟩)
                go_wp2_with (rw [hd'.out])
                go_ret
                exact ⟨⟨_, rfl, hv.out⟩, rfl⟩
              · have hS' := hid_e (sofar_next hS.out h1.out h2.out ⟨hq1, by omega⟩ hd'.out g1 g2)
                go_wp2_with (rw [hd'.out])
                go_roundw
                case rel => exact ⟨128, 191, q + 1, rfl, rfl, by simp, by omega, by omega, by omega, fun h => by omega, fun _ => ⟨rfl, rfl⟩, hS', trivial⟩
                case measure => simp [intOf]; omega
        · obtain rfl : q = 4 := by omega
          have hv : Hid (CharIs s 4) := .inr (.inl ⟨_, _, _, hL.out, .inl ⟨rfl, chk_all hS.out (by decide) hq3⟩⟩)
          go_wp2
          go_ret
          exact ⟨⟨_, rfl, hv.out⟩, rfl⟩
    have q244 : (c == 244) = false := by simpa using x244
    have hL : Hid (Lead (byteAt s 0).toNat 4 128 191) := by
      have hcc := hc.out
      refine ⟨by omega, by decide, ?_⟩
      have hf : Lib.firstT (byteAt s 0).toNat = 4 := by
        unfold Lib.firstT
        repeat' split
        all_goals first | rfl | omega
      rw [hf]
      decide
    go_enter Tryz.func55, Tryz.ntmps55
    go_wp2_with (rw [hc.out])
    go_loopw [5, 6, 7] (fun lo hi i wr => ∃ (l h : Int) (q : Nat), lo = .int .u8 l ∧ hi = .int .u8 h ∧ i = .int .i64 q ∧ 1 ≤ q ∧ q ≤ 4 ∧ q ≤ s.size ∧ Hid (q = 1 → l = 128 ∧ h = 191) ∧ Hid (q ≠ 1 → l = 128 ∧ h = 191) ∧ Hid (Sofar s 128 191 q) ∧ wr = w) (fun _ _ i _ => 4 - (intOf i).toNat)
    case atStart => exact ⟨_, _, 1, rfl, rfl, rfl, by omega, by omega, by omega, fun _ => ⟨rfl, rfl⟩, fun h => absurd rfl h, sofar_one s _ _, rfl⟩
    case round =>
      obtain ⟨l, h, q, rfl, rfl, rfl, hq1, hq2, hq3, h1, h2, hS, rfl⟩ := hrel
      by_cases hlt : q < 4
      · have hd : decide ((q : Int) < 4) = true := by simp; omega
        by_cases hend : q = s.size
        · have hb : ((q : Int) == (s.size : Int)) = true := by simp; omega
          have hv : Hid (CharIs s (-1)) := .inr (.inl ⟨_, _, _, hL.out, .inr (.inl ⟨rfl, by omega, by rw [← hend]; exact hS.out⟩)⟩)
          go_wp2
          go_ret
          exact ⟨⟨_, rfl, hv.out⟩, rfl⟩
        · have hb : ((q : Int) == (s.size : Int)) = false := by simp; omega
          have hql : q < s.size := by omega
          have he := byteAt_eq hql
          obtain ⟨d, hd'⟩ : ∃ d : Int, Hid (((byteAt s q).toNat : Int) = d) := ⟨_, hid_e rfl⟩
          by_cases g1 : d < l
          · have hv : Hid (CharIs s 0) := .inr (.inl ⟨_, _, _, hL.out, .inr (.inr ⟨rfl, q, hq1, hlt, hql, hS.out, bad_of h1.out h2.out ⟨hq1, by omega⟩ hd'.out (.inl g1)⟩)⟩)
            go_wp2_with (rw [hd'.out])
            go_ret
            exact ⟨⟨_, rfl, hv.out⟩, rfl⟩
          · by_cases g2 : h < d
            · have hv : Hid (CharIs s 0) := .inr (.inl ⟨_, _, _, hL.out, .inr (.inr ⟨rfl, q, hq1, hlt, hql, hS.out, bad_of h1.out h2.out ⟨hq1, by omega⟩ hd'.out (.inr g2)⟩)⟩)
              go_wp2_with (rw [hd'.out])
              go_ret
              exact ⟨⟨_, rfl, hv.out⟩, rfl⟩
            · have hS' := hid_e (sofar_next hS.out h1.out h2.out ⟨hq1, by omega⟩ hd'.out g1 g2)
              go_wp2_with (rw [hd'.out])
              go_roundw
              case rel => exact ⟨128, 191, q + 1, rfl, rfl, by simp, by omega, by omega, by omega, fun h => by omega, fun _ => ⟨rfl, rfl⟩, hS', trivial⟩
              case measure => simp [intOf]; omega
      · obtain rfl : q = 4 := by omega
        have hv : Hid (CharIs s 4) := .inr (.inl ⟨_, _, _, hL.out, .inl ⟨rfl, chk_all hS.out (by decide) hq3⟩⟩)
        go_wp2
        go_ret
        exact ⟨⟨_, rfl, hv.out⟩, rfl⟩
  have hv : Hid (CharIs s 0) := .inr (.inr ⟨by unfold NoLead; have := hc.out; omega, rfl⟩)
  go_enter Tryz.func55, Tryz.ntmps55
  go_wp2_with (rw [hc.out])
  go_ret
  exact ⟨⟨_, rfl, hv.out⟩, rfl⟩
end Go.Proofs.YtnccaidlcaeeaaaGreatDoor.Tree
