import Derived.Test.YtmlbofbnklmedaaF2
import Derived.Deep.DeepCutAuto
/-! The document's Character and Clean: they answer something. -/
namespace Go.Proofs.Ytmlbofbnklmedaa
open Go Go.RowKit

theorem not_empty {s : ByteArray} (h : ¬ s.size = 0) : s.toList.isEmpty = false := by
  rw [Bool.eq_false_iff]
  intro e
  have e1 : s.toList = (⟨#[]⟩ : ByteArray).toList := by rw [List.isEmpty_iff.1 e]; rw [ByteArray.toList, ByteArray.toList.loop]; simp [ByteArray.size]
  have e2 : (s.toList == (⟨#[]⟩ : ByteArray).toList) = true := by rw [e1]; simp
  rw [toList_beq] at e2
  have e3 : s = ⟨#[]⟩ := by simpa using e2
  rw [e3] at h
  exact h rfl
/-- A number of bytes that the text has. -/
def Within (s : ByteArray) (e : Ending) : Prop := ∃ z : Int, e = .returned (.int .i64 z) ∧ z ≤ s.size ∧ -1 ≤ z
set_option maxHeartbeats 4000000 in
set_option maxRecDepth 100000 in
theorem character_any (s : ByteArray) (hs : s.size ≤ 9223372036854775806) (w : World) : Calls Try.prog 67 #[.string s] w fun e w' => Within s e ∧ w' = w := by
  by_cases h0 : s.size = 0
  · have hz : s = ⟨#[]⟩ := ByteArray.ext (Array.eq_empty_of_size_eq_zero h0)
    subst hz
    go_enter Try.func67, Try.ntmps67
    go_wp2
    go_ret
    exact ⟨⟨0, rfl, by simp, by omega⟩, rfl⟩
  · have hne := not_empty h0
    have e0 := byteAt_eq (show 0 < s.size by omega)
    have hs1 : (1 : Int) ≤ s.size := by omega
    obtain ⟨c, hc⟩ : ∃ c : Int, Hid (((byteAt s 0).toNat : Int) = c) := ⟨_, hid_f rfl⟩
    have hc0 : 0 ≤ c := by rw [← hc.out]; omega
    have hc1 : c ≤ 255 := by rw [← hc.out]; have := (byteAt s 0).toNat_lt; omega
    by_cases r1 : c < 128
    · go_enter Try.func67, Try.ntmps67
      go_wp2_with (rw [hc.out])
      go_ret
      exact ⟨⟨1, rfl, hs1, by omega⟩, rfl⟩
    · by_cases r2 : 194 ≤ c
      · by_cases r3 : c ≤ 223
        · go_enter Try.func67, Try.ntmps67
          go_wp2_with (rw [hc.out])
          go_loopw [5, 6, 7] (fun lo hi i wr => ∃ (l h : Int) (q : Nat), lo = .int .u8 l ∧ hi = .int .u8 h ∧ i = .int .i64 q ∧ 1 ≤ q ∧ q ≤ 2 ∧ q ≤ s.size ∧ wr = w) (fun _ _ i _ => 2 - (intOf i).toNat)
          case atStart => exact ⟨_, _, 1, rfl, rfl, rfl, by omega, by omega, by omega, rfl⟩
          case round =>
            obtain ⟨l, h, q, rfl, rfl, rfl, hq1, hq2, hq3, rfl⟩ := hrel
            by_cases hlt : q < 2
            · have hd : decide ((q : Int) < 2) = true := by simp; omega
              by_cases hend : q = s.size
              · subst hend
                go_wp2
                go_ret
                exact ⟨⟨-1, rfl, by omega, by omega⟩, rfl⟩
              · have hb : ((q : Int) == (s.size : Int)) = false := by simp; omega
                have hql : q < s.size := by omega
                have he := byteAt_eq hql
                obtain ⟨d, hd'⟩ : ∃ d : Int, Hid (((byteAt s q).toNat : Int) = d) := ⟨_, hid_f rfl⟩
                by_cases g1 : d < l
                · go_wp2_with (rw [hd'.out])
                  go_ret
                  exact ⟨⟨0, rfl, by omega, by omega⟩, rfl⟩
                · by_cases g2 : h < d
                  · go_wp2_with (rw [hd'.out])
                    go_ret
                    exact ⟨⟨0, rfl, by omega, by omega⟩, rfl⟩
                  · go_wp2_with (rw [hd'.out])
                    go_roundw
                    case rel => exact ⟨128, 191, q + 1, rfl, rfl, by simp, by omega, by omega, by omega, trivial⟩
                    case measure => simp [intOf]; omega
            · obtain rfl : q = 2 := by omega
              go_wp2
              go_ret
              exact ⟨⟨2, rfl, by omega, by omega⟩, rfl⟩
        · have r4 : 224 ≤ c := by omega
          by_cases r5 : c ≤ 239
          · by_cases x224 : c = 224
            · subst x224
              go_enter Try.func67, Try.ntmps67
              go_wp2_with (rw [hc.out])
              go_loopw [5, 6, 7] (fun lo hi i wr => ∃ (l h : Int) (q : Nat), lo = .int .u8 l ∧ hi = .int .u8 h ∧ i = .int .i64 q ∧ 1 ≤ q ∧ q ≤ 3 ∧ q ≤ s.size ∧ wr = w) (fun _ _ i _ => 3 - (intOf i).toNat)
              case atStart => exact ⟨_, _, 1, rfl, rfl, rfl, by omega, by omega, by omega, rfl⟩
              case round =>
                obtain ⟨l, h, q, rfl, rfl, rfl, hq1, hq2, hq3, rfl⟩ := hrel
                by_cases hlt : q < 3
                · have hd : decide ((q : Int) < 3) = true := by simp; omega
                  by_cases hend : q = s.size
                  · subst hend
                    go_wp2
                    go_ret
                    exact ⟨⟨-1, rfl, by omega, by omega⟩, rfl⟩
                  · have hb : ((q : Int) == (s.size : Int)) = false := by simp; omega
                    have hql : q < s.size := by omega
                    have he := byteAt_eq hql
                    obtain ⟨d, hd'⟩ : ∃ d : Int, Hid (((byteAt s q).toNat : Int) = d) := ⟨_, hid_f rfl⟩
                    by_cases g1 : d < l
                    · go_wp2_with (rw [hd'.out])
                      go_ret
                      exact ⟨⟨0, rfl, by omega, by omega⟩, rfl⟩
                    · by_cases g2 : h < d
                      · go_wp2_with (rw [hd'.out])
                        go_ret
                        exact ⟨⟨0, rfl, by omega, by omega⟩, rfl⟩
                      · go_wp2_with (rw [hd'.out])
                        go_roundw
                        case rel => exact ⟨128, 191, q + 1, rfl, rfl, by simp, by omega, by omega, by omega, trivial⟩
                        case measure => simp [intOf]; omega
                · obtain rfl : q = 3 := by omega
                  go_wp2
                  go_ret
                  exact ⟨⟨3, rfl, by omega, by omega⟩, rfl⟩
            · have q224 : (c == 224) = false := by simpa using x224
              by_cases x237 : c = 237
              · subst x237
                go_enter Try.func67, Try.ntmps67
                go_wp2_with (rw [hc.out])
                go_loopw [5, 6, 7] (fun lo hi i wr => ∃ (l h : Int) (q : Nat), lo = .int .u8 l ∧ hi = .int .u8 h ∧ i = .int .i64 q ∧ 1 ≤ q ∧ q ≤ 3 ∧ q ≤ s.size ∧ wr = w) (fun _ _ i _ => 3 - (intOf i).toNat)
                case atStart => exact ⟨_, _, 1, rfl, rfl, rfl, by omega, by omega, by omega, rfl⟩
                case round =>
                  obtain ⟨l, h, q, rfl, rfl, rfl, hq1, hq2, hq3, rfl⟩ := hrel
                  by_cases hlt : q < 3
                  · have hd : decide ((q : Int) < 3) = true := by simp; omega
                    by_cases hend : q = s.size
                    · subst hend
                      go_wp2
                      go_ret
                      exact ⟨⟨-1, rfl, by omega, by omega⟩, rfl⟩
                    · have hb : ((q : Int) == (s.size : Int)) = false := by simp; omega
                      have hql : q < s.size := by omega
                      have he := byteAt_eq hql
                      obtain ⟨d, hd'⟩ : ∃ d : Int, Hid (((byteAt s q).toNat : Int) = d) := ⟨_, hid_f rfl⟩
                      by_cases g1 : d < l
                      · go_wp2_with (rw [hd'.out])
                        go_ret
                        exact ⟨⟨0, rfl, by omega, by omega⟩, rfl⟩
                      · by_cases g2 : h < d
                        · go_wp2_with (rw [hd'.out])
                          go_ret
                          exact ⟨⟨0, rfl, by omega, by omega⟩, rfl⟩
                        · go_wp2_with (rw [hd'.out])
                          go_roundw
                          case rel => exact ⟨128, 191, q + 1, rfl, rfl, by simp, by omega, by omega, by omega, trivial⟩
                          case measure => simp [intOf]; omega
                  · obtain rfl : q = 3 := by omega
                    go_wp2
                    go_ret
                    exact ⟨⟨3, rfl, by omega, by omega⟩, rfl⟩
              · have q237 : (c == 237) = false := by simpa using x237
                go_enter Try.func67, Try.ntmps67
                go_wp2_with (rw [hc.out])
                go_loopw [5, 6, 7] (fun lo hi i wr => ∃ (l h : Int) (q : Nat), lo = .int .u8 l ∧ hi = .int .u8 h ∧ i = .int .i64 q ∧ 1 ≤ q ∧ q ≤ 3 ∧ q ≤ s.size ∧ wr = w) (fun _ _ i _ => 3 - (intOf i).toNat)
                case atStart => exact ⟨_, _, 1, rfl, rfl, rfl, by omega, by omega, by omega, rfl⟩
                case round =>
                  obtain ⟨l, h, q, rfl, rfl, rfl, hq1, hq2, hq3, rfl⟩ := hrel
                  by_cases hlt : q < 3
                  · have hd : decide ((q : Int) < 3) = true := by simp; omega
                    by_cases hend : q = s.size
                    · subst hend
                      go_wp2
                      go_ret
                      exact ⟨⟨-1, rfl, by omega, by omega⟩, rfl⟩
                    · have hb : ((q : Int) == (s.size : Int)) = false := by simp; omega
                      have hql : q < s.size := by omega
                      have he := byteAt_eq hql
                      obtain ⟨d, hd'⟩ : ∃ d : Int, Hid (((byteAt s q).toNat : Int) = d) := ⟨_, hid_f rfl⟩
                      by_cases g1 : d < l
                      · go_wp2_with (rw [hd'.out])
                        go_ret
                        exact ⟨⟨0, rfl, by omega, by omega⟩, rfl⟩
                      · by_cases g2 : h < d
                        · go_wp2_with (rw [hd'.out])
                          go_ret
                          exact ⟨⟨0, rfl, by omega, by omega⟩, rfl⟩
                        · go_wp2_with (rw [hd'.out])
                          go_roundw
                          case rel => exact ⟨128, 191, q + 1, rfl, rfl, by simp, by omega, by omega, by omega, trivial⟩
                          case measure => simp [intOf]; omega
                  · obtain rfl : q = 3 := by omega
                    go_wp2
                    go_ret
                    exact ⟨⟨3, rfl, by omega, by omega⟩, rfl⟩
          · have r6 : 240 ≤ c := by omega
            by_cases r7 : c ≤ 244
            · by_cases x240 : c = 240
              · subst x240
                go_enter Try.func67, Try.ntmps67
                go_wp2_with (rw [hc.out])
                go_loopw [5, 6, 7] (fun lo hi i wr => ∃ (l h : Int) (q : Nat), lo = .int .u8 l ∧ hi = .int .u8 h ∧ i = .int .i64 q ∧ 1 ≤ q ∧ q ≤ 4 ∧ q ≤ s.size ∧ wr = w) (fun _ _ i _ => 4 - (intOf i).toNat)
                case atStart => exact ⟨_, _, 1, rfl, rfl, rfl, by omega, by omega, by omega, rfl⟩
                case round =>
                  obtain ⟨l, h, q, rfl, rfl, rfl, hq1, hq2, hq3, rfl⟩ := hrel
                  by_cases hlt : q < 4
                  · have hd : decide ((q : Int) < 4) = true := by simp; omega
                    by_cases hend : q = s.size
                    · subst hend
                      go_wp2
                      go_ret
                      exact ⟨⟨-1, rfl, by omega, by omega⟩, rfl⟩
                    · have hb : ((q : Int) == (s.size : Int)) = false := by simp; omega
                      have hql : q < s.size := by omega
                      have he := byteAt_eq hql
                      obtain ⟨d, hd'⟩ : ∃ d : Int, Hid (((byteAt s q).toNat : Int) = d) := ⟨_, hid_f rfl⟩
                      by_cases g1 : d < l
                      · go_wp2_with (rw [hd'.out])
                        go_ret
                        exact ⟨⟨0, rfl, by omega, by omega⟩, rfl⟩
                      · by_cases g2 : h < d
                        · go_wp2_with (rw [hd'.out])
                          go_ret
                          exact ⟨⟨0, rfl, by omega, by omega⟩, rfl⟩
                        · go_wp2_with (rw [hd'.out])
                          go_roundw
                          case rel => exact ⟨128, 191, q + 1, rfl, rfl, by simp, by omega, by omega, by omega, trivial⟩
                          case measure => simp [intOf]; omega
                  · obtain rfl : q = 4 := by omega
                    go_wp2
                    go_ret
                    exact ⟨⟨4, rfl, by omega, by omega⟩, rfl⟩
              · have q240 : (c == 240) = false := by simpa using x240
                by_cases x244 : c = 244
                · subst x244
                  go_enter Try.func67, Try.ntmps67
                  go_wp2_with (rw [hc.out])
                  go_loopw [5, 6, 7] (fun lo hi i wr => ∃ (l h : Int) (q : Nat), lo = .int .u8 l ∧ hi = .int .u8 h ∧ i = .int .i64 q ∧ 1 ≤ q ∧ q ≤ 4 ∧ q ≤ s.size ∧ wr = w) (fun _ _ i _ => 4 - (intOf i).toNat)
                  case atStart => exact ⟨_, _, 1, rfl, rfl, rfl, by omega, by omega, by omega, rfl⟩
                  case round =>
                    obtain ⟨l, h, q, rfl, rfl, rfl, hq1, hq2, hq3, rfl⟩ := hrel
                    by_cases hlt : q < 4
                    · have hd : decide ((q : Int) < 4) = true := by simp; omega
                      by_cases hend : q = s.size
                      · subst hend
                        go_wp2
                        go_ret
                        exact ⟨⟨-1, rfl, by omega, by omega⟩, rfl⟩
                      · have hb : ((q : Int) == (s.size : Int)) = false := by simp; omega
                        have hql : q < s.size := by omega
                        have he := byteAt_eq hql
                        obtain ⟨d, hd'⟩ : ∃ d : Int, Hid (((byteAt s q).toNat : Int) = d) := ⟨_, hid_f rfl⟩
                        by_cases g1 : d < l
                        · go_wp2_with (rw [hd'.out])
                          go_ret
                          exact ⟨⟨0, rfl, by omega, by omega⟩, rfl⟩
                        · by_cases g2 : h < d
                          · go_wp2_with (rw [hd'.out])
                            go_ret
                            exact ⟨⟨0, rfl, by omega, by omega⟩, rfl⟩
                          · go_wp2_with (rw [hd'.out])
                            go_roundw
                            case rel => exact ⟨128, 191, q + 1, rfl, rfl, by simp, by omega, by omega, by omega, trivial⟩
                            case measure => simp [intOf]; omega
                    · obtain rfl : q = 4 := by omega
                      go_wp2
                      go_ret
                      exact ⟨⟨4, rfl, by omega, by omega⟩, rfl⟩
                · have q244 : (c == 244) = false := by simpa using x244
                  go_enter Try.func67, Try.ntmps67
                  go_wp2_with (rw [hc.out])
                  go_loopw [5, 6, 7] (fun lo hi i wr => ∃ (l h : Int) (q : Nat), lo = .int .u8 l ∧ hi = .int .u8 h ∧ i = .int .i64 q ∧ 1 ≤ q ∧ q ≤ 4 ∧ q ≤ s.size ∧ wr = w) (fun _ _ i _ => 4 - (intOf i).toNat)
                  case atStart => exact ⟨_, _, 1, rfl, rfl, rfl, by omega, by omega, by omega, rfl⟩
                  case round =>
                    obtain ⟨l, h, q, rfl, rfl, rfl, hq1, hq2, hq3, rfl⟩ := hrel
                    by_cases hlt : q < 4
                    · have hd : decide ((q : Int) < 4) = true := by simp; omega
                      by_cases hend : q = s.size
                      · subst hend
                        go_wp2
                        go_ret
                        exact ⟨⟨-1, rfl, by omega, by omega⟩, rfl⟩
                      · have hb : ((q : Int) == (s.size : Int)) = false := by simp; omega
                        have hql : q < s.size := by omega
                        have he := byteAt_eq hql
                        obtain ⟨d, hd'⟩ : ∃ d : Int, Hid (((byteAt s q).toNat : Int) = d) := ⟨_, hid_f rfl⟩
                        by_cases g1 : d < l
                        · go_wp2_with (rw [hd'.out])
                          go_ret
                          exact ⟨⟨0, rfl, by omega, by omega⟩, rfl⟩
                        · by_cases g2 : h < d
                          · go_wp2_with (rw [hd'.out])
                            go_ret
                            exact ⟨⟨0, rfl, by omega, by omega⟩, rfl⟩
                          · go_wp2_with (rw [hd'.out])
                            go_roundw
                            case rel => exact ⟨128, 191, q + 1, rfl, rfl, by simp, by omega, by omega, by omega, trivial⟩
                            case measure => simp [intOf]; omega
                    · obtain rfl : q = 4 := by omega
                      go_wp2
                      go_ret
                      exact ⟨⟨4, rfl, by omega, by omega⟩, rfl⟩
            · go_enter Try.func67, Try.ntmps67
              go_wp2_with (rw [hc.out])
              go_ret
              exact ⟨⟨0, rfl, by omega, by omega⟩, rfl⟩
      · have r3 : ¬ 224 ≤ c := by omega
        have r4 : ¬ 240 ≤ c := by omega
        go_enter Try.func67, Try.ntmps67
        go_wp2_with (rw [hc.out])
        go_ret
        exact ⟨⟨0, rfl, by omega, by omega⟩, rfl⟩
set_option maxHeartbeats 1000000 in
set_option maxRecDepth 100000 in
theorem clean_any (s : ByteArray) (hs : s.size ≤ 9223372036854775806) (w : World) : Calls Try.prog 55 #[.string s] w fun e w' => (∃ z, e = .returned (.bool z)) ∧ w' = w := by
  go_enter Try.func55, Try.ntmps55
  go_wp2
  go_loopw [0] (fun v wr => ∃ u : ByteArray, v = .string u ∧ u.size ≤ s.size ∧ wr = w) (fun v _ => (match v with | .string u => u.size | _ => 0))
  case atStart => exact ⟨s, rfl, by omega, rfl⟩
  case round =>
    obtain ⟨u, rfl, hu, rfl⟩ := hrel
    by_cases h0 : u.size = 0
    · have hz : u = ⟨#[]⟩ := ByteArray.ext (Array.eq_empty_of_size_eq_zero h0)
      subst hz
      go_wp2
      go_ret
      exact ⟨⟨true, rfl⟩, rfl⟩
    · have hne := not_empty h0
      go_wp2_with fail
      refine (character_any u (by omega) _).mono ?_
      rintro e w1 ⟨⟨z, rfl, hz1, hz2⟩, rfl⟩
      by_cases hz : z ≤ 0
      · go_wp2
        go_ret
        exact ⟨⟨false, rfl⟩, rfl⟩
      · obtain ⟨n, rfl⟩ : ∃ n : Nat, z = n := ⟨z.toNat, by omega⟩
        have i1 : (0 : Int) ≤ (n : Int) := by omega
        go_wp2
        go_roundw
        case rel => exact ⟨_, rfl, by simp; omega, trivial⟩
        case measure => simp; omega
end Go.Proofs.Ytmlbofbnklmedaa
