import Derived.Test.YtjmneiepcbpdpaaDoorBD
import Derived.Deep.DeepCutAuto
import Derived.Deep.CutBlock
import Derived.Shelf.Unicode.DecodeAny
/-! utf8.Valid of every bytes. -/
namespace Go.Proofs.YtjmneiepcbpdpaaDoor
open Go Go.RowKit

theorem Lie.drop {w : World} {g o : Nat} {l : List UInt8} (h : Lie w g o l) (k : Nat) : Lie w g (o + k) (l.drop k) := fun j b hb => by
  rw [List.getElem?_drop] at hb
  rw [Nat.add_assoc]
  exact h _ _ hb
theorem Lie.keep {w w' : World} {g o : Nat} {l : List UInt8} (h : Lie w g o l) (hb : Below w.heap.size w w') : Lie w' g o l := fun j b hj => stay hb (h j b hj)
/-- The slice v is these bytes, and no room behind them. -/
def Suf (w : World) (v : Value) (l : List UInt8) : Prop := ∃ a, v = .slice a l.length l.length ∧ (l = [] ∨ ∃ g o, a = some ⟨g, o, none⟩ ∧ Lie w g o l)
theorem suf_of {w : World} {g o : Nat} {l : List UInt8} {a : Option Addr} {k n : Nat} (hL : Lie w g o l) (hn : l.length = n + k) (ha : n ≠ 0 → a = some ⟨g, o + k, none⟩) : Suf w (.slice a n n) (l.drop k) := by
  have e : (l.drop k).length = n := by rw [List.length_drop]; omega
  refine ⟨a, by rw [e], ?_⟩
  by_cases h0 : n = 0
  · exact .inl (List.eq_nil_of_length_eq_zero (by omega))
  · exact .inr ⟨g, o + k, ha h0, hL.drop k⟩
theorem below_draw {B : Nat} {x w : World} (h : Below B x w) : ∀ q, Below B x (w.drewN q)
  | 0 => h
  | q + 1 => (below_draw h q).drew
/-- Eight bytes as a word: no bit of the mask stands in it just if all are below 128. -/
theorem word_at {w : World} {g o : Nat} {l : List UInt8} (hL : Lie w g o l) (h8 : 8 ≤ l.length) : ∃ A : Nat, A < 18446744073709551616 ∧ (A &&& 9259542123273814144 = 0 → ∀ b ∈ l.take 8, b.toNat < 128) ∧
    ∀ (n c : Nat) (W : World), 8 ≤ n → Below w.heap.size w W → Calls Tryd.prog 63 #[.slice (some ⟨g, o, none⟩) n c] W fun e w' => e = .returned (.int .u64 (A : Int)) ∧ ∃ q, w' = W.drewN q := by
  match l, hL, h8 with
  | x0 :: x1 :: x2 :: x3 :: x4 :: x5 :: x6 :: x7 :: r, hL, _ =>
    have hlt := Lib.leNat_lt [x0, x1, x2, x3, x4, x5, x6, x7]
    have hm := Lib.leNat_mask [x0, x1, x2, x3, x4, x5, x6, x7]
    rw [show [x0, x1, x2, x3, x4, x5, x6, x7].length = 8 from rfl] at hlt hm
    rw [Lib.maskN8] at hm
    refine ⟨Lib.leNat [x0, x1, x2, x3, x4, x5, x6, x7], hlt, hm.1, fun n c W hn hW => ?_⟩
    refine word_code g o n c x0 x1 x2 x3 x4 x5 x6 x7 W hn (fun j b hj => stay hW (hL j b ?_))
    have hj8 := (List.getElem?_eq_some_iff.1 hj).1
    rw [show x0 :: x1 :: x2 :: x3 :: x4 :: x5 :: x6 :: x7 :: r = [x0, x1, x2, x3, x4, x5, x6, x7] ++ r from rfl, List.getElem?_append_left hj8]
    exact hj
theorem valid_skip {l : List UInt8} {k : Nat} (h : ∀ b ∈ l.take k, b.toNat < 128) : Lib.validD (l.drop k) = Lib.validD l := (Lib.validD_ascii k l h).symm
theorem take_more {l : List UInt8} {a b : Nat} (h1 : ∀ x ∈ l.take a, x.toNat < 128) (h2 : ∀ x ∈ (l.drop a).take b, x.toNat < 128) : ∀ x ∈ l.take (a + b), x.toNat < 128 := by
  rw [List.take_add]
  intro x hx
  rcases List.mem_append.1 hx with h | h
  · exact h1 x h
  · exact h2 x h
set_option maxRecDepth 100000 in
theorem and_7 : ∀ X : Fin 256, bits .and .u8 ((X.val : Nat) : Int) 7 = ((X.val % 8 : Nat) : Int) := by decide
theorem getD_of {l : List UInt8} {k : Nat} {b : UInt8} (h : l[k]? = some b) : l.getD k 0 = b := by rw [List.getD_eq_getElem?_getD, h]; rfl
set_option maxHeartbeats 16000000 in
set_option maxRecDepth 1000000 in
theorem valid_code (g o n c : Nat) (l : List UInt8) (w : World) (hn : l.length = n) (hc : n ≤ c) (hcm : c ≤ 9223372036854775807) (hL : Lie w g o l) (hT : Lib.Utf8Tabs 1 2 w) :
    Calls Tryd.prog 58 #[.slice (some ⟨g, o, none⟩) n c] w fun e w' => e = .returned (.bool (Lib.validD l)) ∧ Below w.heap.size w w' := by
  obtain ⟨ANS, hANS⟩ : ∃ ANS, Lib.validD l = ANS := ⟨_, rfl⟩
  rw [hANS]
  subst hn
  have hcz : (l.length : Int) ≤ (c : Int) := by omega
  go_enter Tryd.func58, Tryd.ntmps58
  go_wp2_with fail
  go_loopg [0] (l.length + 1) (fun gk s0 wx => Below w.heap.size w wx ∧ ∃ t : List UInt8, Suf w s0 t ∧ Lib.validD t = ANS ∧ t.length < gk ∧ t.length ≤ 9223372036854775807)
  case atStart => exact ⟨Below.refl _ _, l, ⟨_, rfl, .inr ⟨g, o, rfl, hL⟩⟩, hANS, by omega, by omega⟩
  case round =>
    clear hL hc hcz hANS
    obtain ⟨hbw, t, ⟨a, rfl, hS⟩, hv, hg, hts⟩ := hrel
    by_cases h0 : 0 < t.length
    · obtain ⟨g', rfl⟩ : ∃ g', gk = g' + 1 := ⟨gk - 1, by omega⟩
      obtain ⟨G, O, rfl, hLt⟩ := hS.resolve_left (by intro e; subst e; simp at h0)
      clear hS
      obtain ⟨x0, hx0⟩ : ∃ b, t[0]? = some b := ⟨_, List.getElem?_eq_getElem h0⟩
      have c0 := stay hbw (hLt 0 x0 hx0)
      rw [Nat.add_zero] at c0
      have hx0lt : x0.toNat < 256 := x0.toNat_lt
      by_cases hasc : x0.toNat < 128
      · have hascz : (x0.toNat : Int) < 128 := by omega
        obtain ⟨N, hN⟩ : ∃ N, t.length = N + 1 := ⟨t.length - 1, by omega⟩
        have a1 : ∀ b ∈ t.take 1, b.toNat < 128 := by
          intro b hb
          have : t.take 1 = [x0] := by
            match t, hx0 with
            | y :: r, h => simp at h; simp [h]
          rw [this] at hb
          rw [List.mem_singleton.1 hb]
          exact hasc
        have v1 : Lib.validD (t.drop 1) = ANS := (valid_skip a1).trans hv
        have z1 : (t.drop 1).length = N := by rw [List.length_drop]; omega
        have h0z : (0 : Int) < ((N + 1 : Nat) : Int) := by omega
        have i1 : (1 : Int) ≤ ((N + 1 : Nat) : Int) := by omega
        rw [hN]
        by_cases c8 : 8 < N
        · have hN0 : ¬ N = 0 := by omega
          have c8z : (8 : Int) < (N : Int) := by omega
          have s8z : (8 : Int) ≤ (N : Int) := by omega
          have hL1 := hLt.drop 1
          obtain ⟨A1, lA1, kA1, cW⟩ := word_at hL1 (by omega)
          have cW1 : ∀ W, Hid (Below w.heap.size w W → Calls Tryd.prog 63 #[.slice (some ⟨G, O + 1, none⟩) N N] W fun e w' => e = .returned (.int .u64 (A1 : Int)) ∧ ∃ q, w' = W.drewN q) := fun W => hid_e (cW N N W (by omega))
          clear cW
          have hand1 : bits .and .u64 (A1 : Int) 9259542123273814144 = ((A1 &&& 9259542123273814144 : Nat) : Int) := u64_and_nat A1 9259542123273814144 lA1 (by omega)
          obtain ⟨Z1, hZ1⟩ : ∃ Z1, A1 &&& 9259542123273814144 = Z1 := ⟨_, rfl⟩
          rw [hZ1] at hand1 kA1
          clear hZ1
          by_cases hz1 : Z1 = 0
          · as_aux_lemma =>
              have hz1b : ((Z1 : Int) == 0) = true := by simp [hz1]
              have a8 := take_more a1 (kA1 hz1)
              clear kA1
              have v2 : Lib.validD (t.drop 9) = ANS := (valid_skip a8).trans hv
              have hM0 : ¬ N - 8 = 0 := by omega
              have hL2 := hLt.drop 9
              go_wp2_with (go_at_call 63; refine ((cW1 _).out hbw).mono ?_; rintro e W1 ⟨rfl, q1, rfl⟩)
              have hb1 : Below w.heap.size w (wr.drewN q1) := below_draw hbw q1
              generalize wr.drewN q1 = wq at hb1 ⊢
              clear cW1
              obtain ⟨M, hM⟩ : ∃ M, N - 8 = M := ⟨_, rfl⟩
              have z2 : (t.drop 9).length = M := by rw [List.length_drop]; omega
              rw [hM, show O + 1 + 8 = O + 9 from rfl]
              have hM9 : Hid (N = M + 8) := by rw [Hid]; omega
              clear hM hM0 c8z s8z i1 h0z hN0
              by_cases c16 : 16 < M
              · have c16z : (16 : Int) < (M : Int) := by omega
                have s8m : (8 : Int) ≤ (M : Int) := by omega
                have s16m : (16 : Int) ≤ (M : Int) := by omega
                obtain ⟨A2, lA2, kA2, cV2⟩ := word_at hL2 (by rw [z2]; omega)
                have hL2b := hLt.drop 17
                obtain ⟨A3, lA3, kA3, cV3⟩ := word_at hL2b (by rw [List.length_drop]; have := hM9.out; omega)
                have cW2 : ∀ W, Hid (Below w.heap.size w W → Calls Tryd.prog 63 #[.slice (some ⟨G, O + 9, none⟩) M M] W fun e w' => e = .returned (.int .u64 (A2 : Int)) ∧ ∃ q, w' = W.drewN q) := fun W => hid_e (cV2 M M W (by omega))
                have cW3 : ∀ W, Hid (Below w.heap.size w W → Calls Tryd.prog 63 #[.slice (some ⟨G, O + 17, none⟩) (M - 8) (M - 8)] W fun e w' => e = .returned (.int .u64 (A3 : Int)) ∧ ∃ q, w' = W.drewN q) := fun W => hid_e (cV3 (M - 8) (M - 8) W (by omega))
                clear cV2 cV3
                have hM8 : ¬ M - 8 = 0 := by omega
                have hor2 : bits .or .u64 (A2 : Int) (A3 : Int) = ((A2 ||| A3 : Nat) : Int) := u64_or_nat A2 A3 lA2 lA3
                have lor2 : A2 ||| A3 < 18446744073709551616 := Nat.or_lt_two_pow (n := 64) lA2 lA3
                have hand2 : bits .and .u64 ((A2 ||| A3 : Nat) : Int) 9259542123273814144 = (((A2 ||| A3) &&& 9259542123273814144 : Nat) : Int) := u64_and_nat _ 9259542123273814144 lor2 (by omega)
                have k2 : (A2 ||| A3) &&& 9259542123273814144 = 0 → ∀ b ∈ t.take 25, b.toNat < 128 := fun h => by
                  obtain ⟨e1, e2⟩ := (Lib.or_mask A2 A3 _).1 h
                  exact take_more (take_more a8 (kA2 e1)) (kA3 e2)
                obtain ⟨O2, hO2⟩ : ∃ O2, A2 ||| A3 = O2 := ⟨_, rfl⟩
                rw [hO2] at hor2 hand2 k2
                obtain ⟨Z2, hZ2⟩ : ∃ Z2, O2 &&& 9259542123273814144 = Z2 := ⟨_, rfl⟩
                rw [hZ2] at hand2 k2
                clear kA2 kA3 lor2 hO2 hZ2
                by_cases hz2 : Z2 = 0
                · as_aux_lemma =>
                    have hz2b : ((Z2 : Int) == 0) = true := by simp [hz2]
                    have a24 := k2 hz2
                    have v3 : Lib.validD (t.drop 25) = ANS := (valid_skip a24).trans hv
                    clear k2 v2
                    go_big_quiet (first | (go_at_call 63; with_reducible refine Calls.quiet_of ((cW2 _).out (below_draw hb1 _))) | (go_at_call 63; with_reducible refine Calls.quiet_of ((cW3 _).out (below_draw hb1 _))))
                    have hb2 : Below w.heap.size w (wq.drewN nq) := below_draw hb1 nq
                    generalize wq.drewN nq = wq2 at hb2 ⊢
                    clear cW2 cW3 hb1 hbw
                    go_wp2_with fail
                    go_loopg [0] (t.length + 1) (fun g2 s0 wx => Below w.heap.size w wx ∧ ∃ u : List UInt8, Suf w s0 u ∧ Lib.validD u = ANS ∧ u.length < g2 ∧ u.length + 1 ≤ t.length)
                    case atStart => exact ⟨hb2, t.drop 25, suf_of hLt (n := M - 16) (by have := hM9.out; omega) (fun h => by first | rfl | rw [if_neg h]), v3, by rw [List.length_drop]; omega, by rw [List.length_drop]; omega⟩
                    case round =>
                      clear hb2 v3
                      obtain ⟨hbu, u, ⟨ua, rfl, hSu⟩, vu, hgu, hut⟩ := hrel
                      by_cases c32 : 32 < u.length
                      · as_aux_lemma =>
                          obtain ⟨g3, rfl⟩ : ∃ g3, gk = g3 + 1 := ⟨gk - 1, by omega⟩
                          obtain ⟨GU, OU, rfl, hLu⟩ := hSu.resolve_left (by intro e; subst e; simp at c32)
                          clear hSu
                          have c32z : (32 : Int) < (u.length : Int) := by omega
                          have s8u : (8 : Int) ≤ (u.length : Int) := by omega
                          have s16u : (16 : Int) ≤ (u.length : Int) := by omega
                          have s24u : (24 : Int) ≤ (u.length : Int) := by omega
                          have s32u : (32 : Int) ≤ (u.length : Int) := by omega
                          have n8 : ¬ u.length - 8 = 0 := by omega
                          have n16 : ¬ u.length - 16 = 0 := by omega
                          have n24 : ¬ u.length - 24 = 0 := by omega
                          have n32 : ¬ u.length - 32 = 0 := by omega
                          obtain ⟨B0, lB0, kB0, e0⟩ := word_at hLu (by omega)
                          obtain ⟨B1, lB1, kB1, e1⟩ := word_at (hLu.drop 8) (by rw [List.length_drop]; omega)
                          obtain ⟨B2, lB2, kB2, e2⟩ := word_at (hLu.drop 16) (by rw [List.length_drop]; omega)
                          obtain ⟨B3, lB3, kB3, e3⟩ := word_at (hLu.drop 24) (by rw [List.length_drop]; omega)
                          have cB0 : ∀ W, Hid (Below w.heap.size w W → Calls Tryd.prog 63 #[.slice (some ⟨GU, OU, none⟩) u.length u.length] W fun e w' => e = .returned (.int .u64 (B0 : Int)) ∧ ∃ q, w' = W.drewN q) := fun W => hid_e (e0 _ _ W (by omega))
                          have cB1 : ∀ W, Hid (Below w.heap.size w W → Calls Tryd.prog 63 #[.slice (some ⟨GU, OU + 8, none⟩) (u.length - 8) (u.length - 8)] W fun e w' => e = .returned (.int .u64 (B1 : Int)) ∧ ∃ q, w' = W.drewN q) := fun W => hid_e (e1 _ _ W (by omega))
                          have cB2 : ∀ W, Hid (Below w.heap.size w W → Calls Tryd.prog 63 #[.slice (some ⟨GU, OU + 16, none⟩) (u.length - 16) (u.length - 16)] W fun e w' => e = .returned (.int .u64 (B2 : Int)) ∧ ∃ q, w' = W.drewN q) := fun W => hid_e (e2 _ _ W (by omega))
                          have cB3 : ∀ W, Hid (Below w.heap.size w W → Calls Tryd.prog 63 #[.slice (some ⟨GU, OU + 24, none⟩) (u.length - 24) (u.length - 24)] W fun e w' => e = .returned (.int .u64 (B3 : Int)) ∧ ∃ q, w' = W.drewN q) := fun W => hid_e (e3 _ _ W (by omega))
                          clear e0 e1 e2 e3
                          have ho1 : bits .or .u64 (B0 : Int) (B1 : Int) = ((B0 ||| B1 : Nat) : Int) := u64_or_nat B0 B1 lB0 lB1
                          have ho2 : bits .or .u64 (B2 : Int) (B3 : Int) = ((B2 ||| B3 : Nat) : Int) := u64_or_nat B2 B3 lB2 lB3
                          have lo1 : B0 ||| B1 < 18446744073709551616 := Nat.or_lt_two_pow (n := 64) lB0 lB1
                          have lo2 : B2 ||| B3 < 18446744073709551616 := Nat.or_lt_two_pow (n := 64) lB2 lB3
                          have ho3 : bits .or .u64 ((B0 ||| B1 : Nat) : Int) ((B2 ||| B3 : Nat) : Int) = (((B0 ||| B1) ||| (B2 ||| B3) : Nat) : Int) := u64_or_nat _ _ lo1 lo2
                          have lo3 : (B0 ||| B1) ||| (B2 ||| B3) < 18446744073709551616 := Nat.or_lt_two_pow (n := 64) lo1 lo2
                          have hand3 : bits .and .u64 (((B0 ||| B1) ||| (B2 ||| B3) : Nat) : Int) 9259542123273814144 = ((((B0 ||| B1) ||| (B2 ||| B3)) &&& 9259542123273814144 : Nat) : Int) := u64_and_nat _ 9259542123273814144 lo3 (by omega)
                          have k3 : ((B0 ||| B1) ||| (B2 ||| B3)) &&& 9259542123273814144 = 0 → ∀ b ∈ u.take 32, b.toNat < 128 := fun h => by
                            obtain ⟨e01, e23⟩ := (Lib.or_mask _ _ _).1 h
                            obtain ⟨f0, f1⟩ := (Lib.or_mask _ _ _).1 e01
                            obtain ⟨f2, f3⟩ := (Lib.or_mask _ _ _).1 e23
                            exact take_more (a := 24) (take_more (a := 16) (take_more (a := 8) (kB0 f0) (kB1 f1)) (kB2 f2)) (kB3 f3)
                          obtain ⟨P1, hP1⟩ : ∃ P1, B0 ||| B1 = P1 := ⟨_, rfl⟩
                          obtain ⟨P2, hP2⟩ : ∃ P2, B2 ||| B3 = P2 := ⟨_, rfl⟩
                          rw [hP1, hP2] at ho3 hand3 k3
                          rw [hP1] at ho1
                          rw [hP2] at ho2
                          obtain ⟨P3, hP3⟩ : ∃ P3, P1 ||| P2 = P3 := ⟨_, rfl⟩
                          rw [hP3] at ho3 hand3 k3
                          obtain ⟨Z3, hZ3⟩ : ∃ Z3, P3 &&& 9259542123273814144 = Z3 := ⟨_, rfl⟩
                          rw [hZ3] at hand3 k3
                          clear kB0 kB1 kB2 kB3 lo1 lo2 lo3 hP1 hP2 hP3 hZ3
                          by_cases hz3 : Z3 = 0
                          · have hz3b : ((Z3 : Int) == 0) = true := by simp [hz3]
                            have vu2 : Lib.validD (u.drop 32) = ANS := (valid_skip (k3 hz3)).trans vu
                            go_wp2_with fail
                            go_big_quiet (first | (go_at_call 63; with_reducible refine Calls.quiet_of ((cB0 _).out (below_draw hbu _))) | (go_at_call 63; with_reducible refine Calls.quiet_of ((cB1 _).out (below_draw hbu _))) | (go_at_call 63; with_reducible refine Calls.quiet_of ((cB2 _).out (below_draw hbu _))) | (go_at_call 63; with_reducible refine Calls.quiet_of ((cB3 _).out (below_draw hbu _))))
                            go_wp2_with fail
                            go_roundg g3
                            case measure => omega
                            case rel => exact ⟨below_draw hbu nq, u.drop 32, suf_of hLu (n := u.length - 32) (by omega) (fun h => by first | rfl | rw [if_neg h]), vu2, by rw [List.length_drop]; omega, by rw [List.length_drop]; omega⟩
                          · have hz3b : ((Z3 : Int) == 0) = false := by simp; omega
                            go_wp2_with fail
                            go_big_quiet (first | (go_at_call 63; with_reducible refine Calls.quiet_of ((cB0 _).out (below_draw hbu _))) | (go_at_call 63; with_reducible refine Calls.quiet_of ((cB1 _).out (below_draw hbu _))) | (go_at_call 63; with_reducible refine Calls.quiet_of ((cB2 _).out (below_draw hbu _))) | (go_at_call 63; with_reducible refine Calls.quiet_of ((cB3 _).out (below_draw hbu _))))
                            go_wp2_with fail
                            go_roundg g'
                            case measure => omega
                            case rel => exact ⟨below_draw hbu nq, u, ⟨_, rfl, .inr ⟨GU, OU, rfl, hLu⟩⟩, vu, by omega, by omega⟩
                      · have c32z : ¬ ((32 : Int) < (u.length : Int)) := by omega
                        have c32b : decide ((32 : Int) < (u.length : Int)) = false := decide_eq_false c32z
                        go_wp2_with fail
                        go_big_quiet (fail)
                        go_wp2_with fail
                        go_roundg g'
                        case measure => omega
                        case rel => exact ⟨below_draw hbu nq, u, ⟨_, rfl, hSu⟩, vu, by omega, by omega⟩
                · have hz2b : ((Z2 : Int) == 0) = false := by simp; omega
                  go_big_quiet (first | (go_at_call 63; with_reducible refine Calls.quiet_of ((cW2 _).out (below_draw hb1 _))) | (go_at_call 63; with_reducible refine Calls.quiet_of ((cW3 _).out (below_draw hb1 _))))
                  go_wp2_with fail
                  go_roundg g'
                  case measure => omega
                  case rel => exact ⟨below_draw hb1 nq, t.drop 9, suf_of hLt (n := M) (by have := hM9.out; omega) (fun _ => rfl), v2, by have := hM9.out; omega, by have := hM9.out; omega⟩
              · have c16z : ¬ ((16 : Int) < (M : Int)) := by omega
                have c16b : decide ((16 : Int) < (M : Int)) = false := decide_eq_false c16z
                go_big_quiet (fail)
                go_wp2_with fail
                go_roundg g'
                case measure => omega
                case rel => exact ⟨below_draw hb1 nq, t.drop 9, suf_of hLt (n := M) (by have := hM9.out; omega) (fun _ => rfl), v2, by have := hM9.out; omega, by have := hM9.out; omega⟩
          · have hz1b : ((Z1 : Int) == 0) = false := by simp; omega
            go_wp2_with (go_at_call 63; refine ((cW1 _).out hbw).mono ?_; rintro e W1 ⟨rfl, q1, rfl⟩)
            go_roundg g'
            case measure => omega
            case rel => exact ⟨below_draw hbw q1, t.drop 1, suf_of hLt (n := N) (by omega) (fun _ => rfl), v1, by omega, by omega⟩
        · have c8z : ¬ ((8 : Int) < (N : Int)) := by omega
          by_cases hN0 : N = 0
          · go_wp2_with fail
            go_roundg g'
            case measure => omega
            case rel => exact ⟨hbw, t.drop 1, suf_of hLt (n := 0) (by omega) (fun h => absurd rfl h), v1, by omega, by omega⟩
          · go_wp2_with fail
            go_roundg g'
            case measure => omega
            case rel => exact ⟨hbw, t.drop 1, suf_of hLt (n := N) (by omega) (fun _ => rfl), v1, by omega, by omega⟩
      · have hge : 128 ≤ x0.toNat := by omega
        have hascz : ¬ ((x0.toNat : Int) < 128) := by omega
        have h0z : (0 : Int) < (t.length : Int) := by omega
        have hne : t ≠ [] := fun h => by subst h; simp at h0
        have hlead := Lib.validD_lead t hne (by rw [getD_of hx0]; exact hge)
        rw [getD_of hx0, hv] at hlead
        obtain ⟨x1, hx1⟩ : ∃ b, t.getD 1 0 = b := ⟨_, rfl⟩
        obtain ⟨x2, hx2⟩ : ∃ b, t.getD 2 0 = b := ⟨_, rfl⟩
        obtain ⟨x3, hx3⟩ : ∃ b, t.getD 3 0 = b := ⟨_, rfl⟩
        rw [hx1, hx2, hx3] at hlead
        have hTr := Utf8Tabs_below hT hbw
        have hc0 := hTr.1 x0.toNat hx0lt
        have hXlt : Lib.firstT x0.toNat < 256 := by rcases Lib.firstT_cases x0.toNat with h | h | h | h | h | h | h | h | h <;> omega
        obtain ⟨X, hX⟩ : ∃ X, Lib.firstT x0.toNat = X := ⟨_, rfl⟩
        rw [hX] at hc0 hXlt hlead
        have h7 := and_7 ⟨X, hXlt⟩
        simp only at h7
        have ha0 : wr.cell? ⟨2, X / 16 * 2, none⟩ = some (.int .u8 (Lib.accLo (X / 16))) := by rw [Nat.mul_comm]; exact (hTr.2 (X / 16) (by omega)).1
        have ha1 : wr.cell? ⟨2, X / 16 * 2 + 1, none⟩ = some (.int .u8 (Lib.accHi (X / 16))) := by rw [Nat.mul_comm]; exact (hTr.2 (X / 16) (by omega)).2
        obtain ⟨LO, hLO⟩ : ∃ LO, Lib.accLo (X / 16) = LO := ⟨_, rfl⟩
        obtain ⟨HI, hHI⟩ : ∃ HI, Lib.accHi (X / 16) = HI := ⟨_, rfl⟩
        rw [hLO] at ha0 hlead
        rw [hHI] at ha1 hlead
        obtain ⟨SZ, hSZ⟩ : ∃ SZ, X % 8 = SZ := ⟨_, rfl⟩
        rw [hSZ] at hlead
        clear hTr hT hX hv hLO hHI hne
        have hcell : ∀ (k : Nat) (b : UInt8), t.getD k 0 = b → k < t.length → wr.cell? ⟨G, O + k, none⟩ = some (.int .u8 (b.toNat : Int)) := fun k b hb hk => by
          refine stay hbw (hLt k b ?_)
          rw [List.getD_eq_getElem?_getD, List.getElem?_eq_getElem hk] at hb
          rw [List.getElem?_eq_getElem hk]
          simpa using hb
        by_cases s2 : SZ = 2
        · as_aux_lemma =>
            subst s2
            have hSZz : (X : Int) % 8 = 2 := by omega
            simp only [Lib.checkN, Nat.reduceEqDiff, if_true, if_false] at hlead
            go_upto_region 18 with fail
            go_cut [103] from 85 to 103 (fun c wx => c = .bool (decide (t.length < 2 ∨ x1.toNat < LO ∨ HI < x1.toNat)) ∧ Below w.heap.size w wx)
            case first =>
              by_cases q0 : t.length < 2
              · have q0z : (t.length : Int) < 2 := by omega
                go_big_quiet (fail)
                go_wp2_with fail
                go_meet
                exact ⟨congrArg Value.bool (decide_eq_true (p := t.length < 2 ∨ x1.toNat < LO ∨ HI < x1.toNat) (by omega)).symm, below_draw (hbw.alloc hbw.size _) _⟩
              · have q0z : ¬ ((t.length : Int) < 2) := by omega
                have hz1 : (1 : Int) < (t.length : Int) := by omega
                have cc1 := fun ob => cell_alloc' (hcell 1 x1 hx1 (by omega)) ob
                by_cases q1 : x1.toNat < LO
                · have q1z : (x1.toNat : Int) < (LO : Int) := by omega
                  go_big_quiet (fail)
                  go_wp2_with fail
                  go_meet
                  exact ⟨congrArg Value.bool (decide_eq_true (p := t.length < 2 ∨ x1.toNat < LO ∨ HI < x1.toNat) (by omega)).symm, below_draw (hbw.alloc hbw.size _) _⟩
                · have q1z : ¬ ((x1.toNat : Int) < (LO : Int)) := by omega
                  by_cases q2 : HI < x1.toNat
                  · have q2z : (HI : Int) < (x1.toNat : Int) := by omega
                    go_big_quiet (fail)
                    go_wp2_with fail
                    go_meet
                    exact ⟨congrArg Value.bool (decide_eq_true (p := t.length < 2 ∨ x1.toNat < LO ∨ HI < x1.toNat) (by omega)).symm, below_draw (hbw.alloc hbw.size _) _⟩
                  · have q2z : ¬ ((HI : Int) < (x1.toNat : Int)) := by omega
                    go_big_quiet (fail)
                    go_wp2_with fail
                    go_meet
                    exact ⟨congrArg Value.bool (decide_eq_false (p := t.length < 2 ∨ x1.toNat < LO ∨ HI < x1.toNat) (by omega)).symm, below_draw (hbw.alloc hbw.size _) _⟩
            case rest =>
              obtain ⟨rfl, hbc⟩ := hcut
              by_cases hb : t.length < 2 ∨ x1.toNat < LO ∨ HI < x1.toNat
              · have hbd : decide (t.length < 2 ∨ x1.toNat < LO ∨ HI < x1.toNat) = true := decide_eq_true hb
                rw [if_pos hb] at hlead
                go_wp2_with fail
                all_goals (go_ret; exact ⟨by first | rfl | rw [hlead], hbc⟩)
              · have hbd : decide (t.length < 2 ∨ x1.toNat < LO ∨ HI < x1.toNat) = false := decide_eq_false hb
                rw [if_neg hb] at hlead
                have hsz : (2 : Int) ≤ (t.length : Int) := by omega
                by_cases hz : t.length = 2
                · go_wp2_with fail
                  go_roundg g'
                  case measure => omega
                  case rel => exact ⟨hbc, t.drop 2, suf_of hLt (n := 0) (by omega) (fun h => absurd rfl h), hlead.symm, by rw [List.length_drop]; omega, by rw [List.length_drop]; omega⟩
                · have hz' : ¬ t.length - 2 = 0 := by omega
                  go_wp2_with fail
                  go_roundg g'
                  case measure => omega
                  case rel => exact ⟨hbc, t.drop 2, suf_of hLt (n := t.length - 2) (by omega) (fun _ => rfl), hlead.symm, by rw [List.length_drop]; omega, by rw [List.length_drop]; omega⟩
        by_cases s3 : SZ = 3
        · as_aux_lemma =>
            subst s3
            have hSZz : (X : Int) % 8 = 3 := by omega
            simp only [Lib.checkN, Nat.reduceEqDiff, if_true, if_false] at hlead
            go_upto_region 22 with fail
            go_cut [138] from 108 to 138 (fun c wx => c = .bool (decide (t.length < 3 ∨ x1.toNat < LO ∨ HI < x1.toNat ∨ x2.toNat < 128 ∨ 191 < x2.toNat)) ∧ Below w.heap.size w wx)
            case first =>
              by_cases q0 : t.length < 3
              · have q0z : (t.length : Int) < 3 := by omega
                go_big_quiet (fail)
                go_wp2_with fail
                go_meet
                exact ⟨congrArg Value.bool (decide_eq_true (p := t.length < 3 ∨ x1.toNat < LO ∨ HI < x1.toNat ∨ x2.toNat < 128 ∨ 191 < x2.toNat) (by omega)).symm, below_draw (hbw.alloc hbw.size _) _⟩
              · have q0z : ¬ ((t.length : Int) < 3) := by omega
                have hz1 : (1 : Int) < (t.length : Int) := by omega
                have cc1 := fun ob => cell_alloc' (hcell 1 x1 hx1 (by omega)) ob
                have hz2 : (2 : Int) < (t.length : Int) := by omega
                have cc2 := fun ob => cell_alloc' (hcell 2 x2 hx2 (by omega)) ob
                by_cases q1 : x1.toNat < LO
                · have q1z : (x1.toNat : Int) < (LO : Int) := by omega
                  go_big_quiet (fail)
                  go_wp2_with fail
                  go_meet
                  exact ⟨congrArg Value.bool (decide_eq_true (p := t.length < 3 ∨ x1.toNat < LO ∨ HI < x1.toNat ∨ x2.toNat < 128 ∨ 191 < x2.toNat) (by omega)).symm, below_draw (hbw.alloc hbw.size _) _⟩
                · have q1z : ¬ ((x1.toNat : Int) < (LO : Int)) := by omega
                  by_cases q2 : HI < x1.toNat
                  · have q2z : (HI : Int) < (x1.toNat : Int) := by omega
                    go_big_quiet (fail)
                    go_wp2_with fail
                    go_meet
                    exact ⟨congrArg Value.bool (decide_eq_true (p := t.length < 3 ∨ x1.toNat < LO ∨ HI < x1.toNat ∨ x2.toNat < 128 ∨ 191 < x2.toNat) (by omega)).symm, below_draw (hbw.alloc hbw.size _) _⟩
                  · have q2z : ¬ ((HI : Int) < (x1.toNat : Int)) := by omega
                    by_cases q3 : x2.toNat < 128
                    · have q3z : (x2.toNat : Int) < 128 := by omega
                      go_big_quiet (fail)
                      go_wp2_with fail
                      go_meet
                      exact ⟨congrArg Value.bool (decide_eq_true (p := t.length < 3 ∨ x1.toNat < LO ∨ HI < x1.toNat ∨ x2.toNat < 128 ∨ 191 < x2.toNat) (by omega)).symm, below_draw (hbw.alloc hbw.size _) _⟩
                    · have q3z : ¬ ((x2.toNat : Int) < 128) := by omega
                      by_cases q4 : 191 < x2.toNat
                      · have q4z : (191 : Int) < (x2.toNat : Int) := by omega
                        go_big_quiet (fail)
                        go_wp2_with fail
                        go_meet
                        exact ⟨congrArg Value.bool (decide_eq_true (p := t.length < 3 ∨ x1.toNat < LO ∨ HI < x1.toNat ∨ x2.toNat < 128 ∨ 191 < x2.toNat) (by omega)).symm, below_draw (hbw.alloc hbw.size _) _⟩
                      · have q4z : ¬ ((191 : Int) < (x2.toNat : Int)) := by omega
                        go_big_quiet (fail)
                        go_wp2_with fail
                        go_meet
                        exact ⟨congrArg Value.bool (decide_eq_false (p := t.length < 3 ∨ x1.toNat < LO ∨ HI < x1.toNat ∨ x2.toNat < 128 ∨ 191 < x2.toNat) (by omega)).symm, below_draw (hbw.alloc hbw.size _) _⟩
            case rest =>
              obtain ⟨rfl, hbc⟩ := hcut
              by_cases hb : t.length < 3 ∨ x1.toNat < LO ∨ HI < x1.toNat ∨ x2.toNat < 128 ∨ 191 < x2.toNat
              · have hbd : decide (t.length < 3 ∨ x1.toNat < LO ∨ HI < x1.toNat ∨ x2.toNat < 128 ∨ 191 < x2.toNat) = true := decide_eq_true hb
                rw [if_pos hb] at hlead
                go_wp2_with fail
                all_goals (go_ret; exact ⟨by first | rfl | rw [hlead], hbc⟩)
              · have hbd : decide (t.length < 3 ∨ x1.toNat < LO ∨ HI < x1.toNat ∨ x2.toNat < 128 ∨ 191 < x2.toNat) = false := decide_eq_false hb
                rw [if_neg hb] at hlead
                have hsz : (3 : Int) ≤ (t.length : Int) := by omega
                by_cases hz : t.length = 3
                · go_wp2_with fail
                  go_roundg g'
                  case measure => omega
                  case rel => exact ⟨hbc, t.drop 3, suf_of hLt (n := 0) (by omega) (fun h => absurd rfl h), hlead.symm, by rw [List.length_drop]; omega, by rw [List.length_drop]; omega⟩
                · have hz' : ¬ t.length - 3 = 0 := by omega
                  go_wp2_with fail
                  go_roundg g'
                  case measure => omega
                  case rel => exact ⟨hbc, t.drop 3, suf_of hLt (n := t.length - 3) (by omega) (fun _ => rfl), hlead.symm, by rw [List.length_drop]; omega, by rw [List.length_drop]; omega⟩
        by_cases s4 : SZ = 4
        · as_aux_lemma =>
            subst s4
            have hSZz : (X : Int) % 8 = 4 := by omega
            simp only [Lib.checkN, Nat.reduceEqDiff, if_true, if_false] at hlead
            go_upto_region 26 with fail
            go_cut [185] from 143 to 185 (fun c wx => c = .bool (decide (t.length < 4 ∨ x1.toNat < LO ∨ HI < x1.toNat ∨ x2.toNat < 128 ∨ 191 < x2.toNat ∨ x3.toNat < 128 ∨ 191 < x3.toNat)) ∧ Below w.heap.size w wx)
            case first =>
              by_cases q0 : t.length < 4
              · have q0z : (t.length : Int) < 4 := by omega
                go_big_quiet (fail)
                go_wp2_with fail
                go_meet
                exact ⟨congrArg Value.bool (decide_eq_true (p := t.length < 4 ∨ x1.toNat < LO ∨ HI < x1.toNat ∨ x2.toNat < 128 ∨ 191 < x2.toNat ∨ x3.toNat < 128 ∨ 191 < x3.toNat) (by omega)).symm, below_draw (hbw.alloc hbw.size _) _⟩
              · have q0z : ¬ ((t.length : Int) < 4) := by omega
                have hz1 : (1 : Int) < (t.length : Int) := by omega
                have cc1 := fun ob => cell_alloc' (hcell 1 x1 hx1 (by omega)) ob
                have hz2 : (2 : Int) < (t.length : Int) := by omega
                have cc2 := fun ob => cell_alloc' (hcell 2 x2 hx2 (by omega)) ob
                have hz3 : (3 : Int) < (t.length : Int) := by omega
                have cc3 := fun ob => cell_alloc' (hcell 3 x3 hx3 (by omega)) ob
                by_cases q1 : x1.toNat < LO
                · have q1z : (x1.toNat : Int) < (LO : Int) := by omega
                  go_big_quiet (fail)
                  go_wp2_with fail
                  go_meet
                  exact ⟨congrArg Value.bool (decide_eq_true (p := t.length < 4 ∨ x1.toNat < LO ∨ HI < x1.toNat ∨ x2.toNat < 128 ∨ 191 < x2.toNat ∨ x3.toNat < 128 ∨ 191 < x3.toNat) (by omega)).symm, below_draw (hbw.alloc hbw.size _) _⟩
                · have q1z : ¬ ((x1.toNat : Int) < (LO : Int)) := by omega
                  by_cases q2 : HI < x1.toNat
                  · have q2z : (HI : Int) < (x1.toNat : Int) := by omega
                    go_big_quiet (fail)
                    go_wp2_with fail
                    go_meet
                    exact ⟨congrArg Value.bool (decide_eq_true (p := t.length < 4 ∨ x1.toNat < LO ∨ HI < x1.toNat ∨ x2.toNat < 128 ∨ 191 < x2.toNat ∨ x3.toNat < 128 ∨ 191 < x3.toNat) (by omega)).symm, below_draw (hbw.alloc hbw.size _) _⟩
                  · have q2z : ¬ ((HI : Int) < (x1.toNat : Int)) := by omega
                    by_cases q3 : x2.toNat < 128
                    · have q3z : (x2.toNat : Int) < 128 := by omega
                      go_big_quiet (fail)
                      go_wp2_with fail
                      go_meet
                      exact ⟨congrArg Value.bool (decide_eq_true (p := t.length < 4 ∨ x1.toNat < LO ∨ HI < x1.toNat ∨ x2.toNat < 128 ∨ 191 < x2.toNat ∨ x3.toNat < 128 ∨ 191 < x3.toNat) (by omega)).symm, below_draw (hbw.alloc hbw.size _) _⟩
                    · have q3z : ¬ ((x2.toNat : Int) < 128) := by omega
                      by_cases q4 : 191 < x2.toNat
                      · have q4z : (191 : Int) < (x2.toNat : Int) := by omega
                        go_big_quiet (fail)
                        go_wp2_with fail
                        go_meet
                        exact ⟨congrArg Value.bool (decide_eq_true (p := t.length < 4 ∨ x1.toNat < LO ∨ HI < x1.toNat ∨ x2.toNat < 128 ∨ 191 < x2.toNat ∨ x3.toNat < 128 ∨ 191 < x3.toNat) (by omega)).symm, below_draw (hbw.alloc hbw.size _) _⟩
                      · have q4z : ¬ ((191 : Int) < (x2.toNat : Int)) := by omega
                        by_cases q5 : x3.toNat < 128
                        · have q5z : (x3.toNat : Int) < 128 := by omega
                          go_big_quiet (fail)
                          go_wp2_with fail
                          go_meet
                          exact ⟨congrArg Value.bool (decide_eq_true (p := t.length < 4 ∨ x1.toNat < LO ∨ HI < x1.toNat ∨ x2.toNat < 128 ∨ 191 < x2.toNat ∨ x3.toNat < 128 ∨ 191 < x3.toNat) (by omega)).symm, below_draw (hbw.alloc hbw.size _) _⟩
                        · have q5z : ¬ ((x3.toNat : Int) < 128) := by omega
                          by_cases q6 : 191 < x3.toNat
                          · have q6z : (191 : Int) < (x3.toNat : Int) := by omega
                            go_big_quiet (fail)
                            go_wp2_with fail
                            go_meet
                            exact ⟨congrArg Value.bool (decide_eq_true (p := t.length < 4 ∨ x1.toNat < LO ∨ HI < x1.toNat ∨ x2.toNat < 128 ∨ 191 < x2.toNat ∨ x3.toNat < 128 ∨ 191 < x3.toNat) (by omega)).symm, below_draw (hbw.alloc hbw.size _) _⟩
                          · have q6z : ¬ ((191 : Int) < (x3.toNat : Int)) := by omega
                            go_big_quiet (fail)
                            go_wp2_with fail
                            go_meet
                            exact ⟨congrArg Value.bool (decide_eq_false (p := t.length < 4 ∨ x1.toNat < LO ∨ HI < x1.toNat ∨ x2.toNat < 128 ∨ 191 < x2.toNat ∨ x3.toNat < 128 ∨ 191 < x3.toNat) (by omega)).symm, below_draw (hbw.alloc hbw.size _) _⟩
            case rest =>
              obtain ⟨rfl, hbc⟩ := hcut
              by_cases hb : t.length < 4 ∨ x1.toNat < LO ∨ HI < x1.toNat ∨ x2.toNat < 128 ∨ 191 < x2.toNat ∨ x3.toNat < 128 ∨ 191 < x3.toNat
              · have hbd : decide (t.length < 4 ∨ x1.toNat < LO ∨ HI < x1.toNat ∨ x2.toNat < 128 ∨ 191 < x2.toNat ∨ x3.toNat < 128 ∨ 191 < x3.toNat) = true := decide_eq_true hb
                rw [if_pos hb] at hlead
                go_wp2_with fail
                all_goals (go_ret; exact ⟨by first | rfl | rw [hlead], hbc⟩)
              · have hbd : decide (t.length < 4 ∨ x1.toNat < LO ∨ HI < x1.toNat ∨ x2.toNat < 128 ∨ 191 < x2.toNat ∨ x3.toNat < 128 ∨ 191 < x3.toNat) = false := decide_eq_false hb
                rw [if_neg hb] at hlead
                have hsz : (4 : Int) ≤ (t.length : Int) := by omega
                by_cases hz : t.length = 4
                · go_wp2_with fail
                  go_roundg g'
                  case measure => omega
                  case rel => exact ⟨hbc, t.drop 4, suf_of hLt (n := 0) (by omega) (fun h => absurd rfl h), hlead.symm, by rw [List.length_drop]; omega, by rw [List.length_drop]; omega⟩
                · have hz' : ¬ t.length - 4 = 0 := by omega
                  go_wp2_with fail
                  go_roundg g'
                  case measure => omega
                  case rel => exact ⟨hbc, t.drop 4, suf_of hLt (n := t.length - 4) (by omega) (fun _ => rfl), hlead.symm, by rw [List.length_drop]; omega, by rw [List.length_drop]; omega⟩
        · have e2 : ¬ ((X : Int) % 8 = 2) := by omega
          have e3 : ¬ ((X : Int) % 8 = 3) := by omega
          have e4 : ¬ ((X : Int) % 8 = 4) := by omega
          have e2b : (((X : Int) % 8) == 2) = false := by simp; omega
          have e3b : (((X : Int) % 8) == 3) = false := by simp; omega
          have e4b : (((X : Int) % 8) == 4) = false := by simp; omega
          simp only [Lib.checkN, s2, s3, s4, if_false] at hlead
          go_wp2_with fail
          all_goals (go_ret; exact ⟨by first | rfl | rw [hlead], hbw.alloc hbw.size _⟩)
    · have h0z : ¬ ((0 : Int) < (t.length : Int)) := by omega
      obtain rfl : t = [] := List.eq_nil_of_length_eq_zero (by omega)
      rw [Lib.validD_nil] at hv
      subst hv
      go_wp2_with fail
      go_ret
      exact ⟨rfl, hbw⟩
end Go.Proofs.YtjmneiepcbpdpaaDoor
