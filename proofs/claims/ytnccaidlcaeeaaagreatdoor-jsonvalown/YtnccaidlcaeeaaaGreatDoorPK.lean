import Derived.Test.YtnccaidlcaeeaaaGreatDoorPM
import Derived.Test.YtnccaidlcaeeaaaGreatDoorZ1
import Derived.Lib.QuoteBits
import Derived.Deep.DeepBigQuietO
import Derived.Laws.BitsAllLaws
/-! The document's reader of texts: a number. -/
namespace Go.Proofs.YtnccaidlcaeeaaaGreatDoor.Tree
open Go Go.RowKit

def dv (acc : Nat) (l : List UInt8) : Nat := l.foldl (fun a b => a * 10 + (b.toNat - 48)) acc
theorem dv_ge : (l : List UInt8) → (acc : Nat) → acc ≤ dv acc l
  | [], acc => Nat.le_refl _
  | b :: l, acc => by
    have := dv_ge l (acc * 10 + (b.toNat - 48))
    show acc ≤ dv (acc * 10 + (b.toNat - 48)) l
    omega
theorem pu_val : (l : List UInt8) → (acc : Nat) → (∀ b ∈ l, 48 ≤ b.toNat ∧ b.toNat ≤ 57) → acc ≤ 18446744073709551615 → Lib.parseUintM 18446744073709551615 acc l = if dv acc l ≤ 18446744073709551615 then .ok (dv acc l) else .range
  | [], acc, _, ha => by rw [Lib.parseUintM]; show _ = if acc ≤ _ then _ else _; rw [if_pos ha]; rfl
  | b :: l, acc, hd, ha => by
    have h1 := dv_ge l (acc * 10 + (b.toNat - 48))
    have e : dv acc (b :: l) = dv (acc * 10 + (b.toNat - 48)) l := rfl
    rw [Lib.parseUintM, if_pos (hd b (.head _)), e]
    split
    · rw [if_neg (by omega)]
    · split
      · rw [if_neg (by omega)]
      · exact pu_val l _ (fun c hc => hd c (.tail _ hc)) (by omega)
theorem dig_iff (b : UInt8) : digit b = true ↔ 48 ≤ b.toNat ∧ b.toNat ≤ 57 := by
  unfold digit
  rw [Bool.and_eq_true, decide_eq_true_eq, decide_eq_true_eq, UInt8.le_iff_toNat_le, UInt8.le_iff_toNat_le]
  exact Iff.rfl
/-- What a number is worth. -/
def numZ (T : ByteArray) (n m : Nat) (mi : Bool) (V : Nat) : Res Int :=
  if (mi = false ∧ 9223372036854775808 ≤ V) ∨ 9223372036854775808 < V then .bad 15 n
  else if m < T.size ∧ frac (byteAt T m) = true then .bad 14 m else .ok (if mi = true then -(V : Int) else (V : Int)) m
theorem bytes_one {T : ByteArray} {n : Nat} (h : n < T.size) : bytesOf T n (n + 1) = [byteAt T n] := by
  have ht : tl T n = byteAt T n :: tl T (n + 1) := lit_get h
  exact bytesOf_tl (l := [byteAt T n]) (r := tl T (n + 1)) ht
theorem bytes_snoc {T : ByteArray} {k m : Nat} (hk : k ≤ m) (hm : m < T.size) : bytesOf T k (m + 1) = bytesOf T k m ++ [byteAt T m] := by
  rw [bytesOf_join T hk (Nat.le_succ m), bytes_one hm]
theorem bytes_cons {T : ByteArray} {k m : Nat} (hk : k < m) (hm : m ≤ T.size) : bytesOf T k m = byteAt T k :: bytesOf T (k + 1) m := by
  rw [bytesOf_join T (Nat.le_succ k) hk, bytes_one (by omega)]
  rfl
theorem bytes_none (T : ByteArray) (k : Nat) : bytesOf T k k = [] := by unfold bytesOf; rw [ByteArray.data_extract]; simp
theorem dv_snoc (l : List UInt8) (b : UInt8) : dv 0 (l ++ [b]) = dv 0 l * 10 + (b.toNat - 48) := by unfold dv; rw [List.foldl_append]; rfl
theorem bytes_digits {T : ByteArray} {k : Nat} : (m : Nat) → k ≤ m → m ≤ T.size → (∀ i, k ≤ i → i < m → digit (byteAt T i) = true) → ∀ b ∈ bytesOf T k m, 48 ≤ b.toNat ∧ b.toNat ≤ 57
  | 0, hk, hm, h => by
    obtain rfl : k = 0 := by omega
    rw [bytes_none]
    intro b hb
    cases hb
  | m + 1, hk, hm, h => by
    by_cases e : k = m + 1
    · subst e
      rw [bytes_none]
      intro b hb
      cases hb
    · rw [bytes_snoc (by omega) (by omega)]
      intro b hb
      rcases List.mem_append.1 hb with hb | hb
      · exact bytes_digits m (by omega) (by omega) (fun i h1 h2 => h i h1 (by omega)) b hb
      · rw [List.mem_singleton.1 hb]
        exact (dig_iff _).1 (h m (by omega) (by omega))
theorem num_fin {T : ByteArray} {n k m : Nat} {mi : Bool} (hk : k < m) (hm : m ≤ T.size) (hd : ∀ i, k ≤ i → i < m → digit (byteAt T i) = true) (hmi : (mi = true ∧ byteAt T n = 45 ∧ k = n + 1) ∨ (mi = false ∧ k = n)) :
    numFin T n m (Lib.parseIntB 64 (T.extract n m).data.toList) = numZ T n m mi (dv 0 (bytesOf T k m)) := by
  have hds := bytes_digits m (by omega) hm hd
  have hv := pu_val (bytesOf T k m) 0 hds (by omega)
  have hc := bytes_cons hk hm
  have hk0 := (dig_iff _).1 (hd k (Nat.le_refl _) hk)
  have hne : bytesOf T k m ≠ [] := by rw [hc]; simp
  have hpu : Lib.parseUintB 64 (bytesOf T k m) = if dv 0 (bytesOf T k m) ≤ 18446744073709551615 then .ok (dv 0 (bytesOf T k m)) else .range := by
    unfold Lib.parseUintB
    rw [if_neg hne]
    exact hv
  show numFin T n m (Lib.parseIntB 64 (bytesOf T n m)) = _
  generalize hV : dv 0 (bytesOf T k m) = V at *
  rcases hmi with ⟨rfl, h45, rfl⟩ | ⟨rfl, rfl⟩
  · rw [bytes_cons (by omega) hm, h45]
    have hpi : Lib.parseIntB 64 (45 :: bytesOf T (n + 1) m) = if V ≤ 9223372036854775808 then .ok (-(V : Int)) else .range := by
      unfold Lib.parseIntB
      simp only
      rw [if_pos (.inr (by rfl)), hpu]
      by_cases h1 : V ≤ 18446744073709551615
      · rw [if_pos h1]
        simp only
        rw [if_neg (by simp)]
        by_cases h2 : V ≤ 9223372036854775808
        · rw [if_neg (by intro h; have := h.2; omega), if_pos h2]
          rfl
        · rw [if_pos ⟨by rfl, by omega⟩, if_neg h2]
      · rw [if_neg h1, if_neg (by omega)]
    rw [hpi]
    unfold numZ
    by_cases h2 : V ≤ 9223372036854775808
    · rw [if_pos h2, if_neg (by simp; omega)]
      rfl
    · rw [if_neg h2, if_pos (.inr (by omega))]
      rfl
  · have hn43 : ¬ ((byteAt T k).toNat = 43 ∨ (byteAt T k).toNat = 45) := by omega
    have hpi : Lib.parseIntB 64 (bytesOf T k m) = if V < 9223372036854775808 then .ok (V : Int) else .range := by
      rw [hc] at hpu ⊢
      unfold Lib.parseIntB
      simp only
      rw [if_neg hn43, hpu]
      by_cases h1 : V ≤ 18446744073709551615
      · rw [if_pos h1]
        simp only
        by_cases h2 : V < 9223372036854775808
        · rw [if_neg (by intro h; have := h.2; omega), if_neg (by intro h; have := h.1; omega), if_pos h2, if_neg (by omega)]
        · rw [if_pos ⟨by omega, by omega⟩, if_neg h2]
      · rw [if_neg h1, if_neg (by omega)]
    rw [hpi]
    unfold numZ
    by_cases h2 : V < 9223372036854775808
    · rw [if_pos h2, if_neg (by simp; omega)]
      rfl
    · rw [if_neg h2, if_pos (.inl ⟨rfl, by omega⟩)]
      rfl
end Go.Proofs.YtnccaidlcaeeaaaGreatDoor.Tree
/-! The document's reader of texts: a number, the walk. -/
namespace Go.Proofs.YtnccaidlcaeeaaaGreatDoor.Tree
open Go Go.RowKit

/-- The digits so far. -/
def NumSo (wd : Bool) (N V : Nat) : Prop := (wd = false ∧ N = V ∧ V ≤ 9223372036854775808) ∨ (wd = true ∧ 9223372036854775808 < V ∧ 1 ≤ N ∧ N ≤ 9223372036854775808)
theorem wrap_u64 {x : Int} (h0 : 0 ≤ x) (h1 : x < 18446744073709551616) : IntKind.u64.wrap x = x := by show x % 18446744073709551616 = x; omega
theorem neg_back {N : Nat} (h : N ≤ 9223372036854775808) : wrap64 (IntKind.u64.wrap (-(N : Int))) = -(N : Int) := by
  have e : IntKind.u64.wrap (-(N : Int)) = (-(N : Int)) % 18446744073709551616 := rfl
  rw [e]
  unfold wrap64
  omega
theorem pos_back {N : Nat} (h : N < 9223372036854775808) : wrap64 (N : Int) = (N : Int) := by
  unfold wrap64
  omega
theorem frac_iff (b : UInt8) : frac b = true ↔ b = 46 ∨ b = 101 ∨ b = 69 := by
  unfold frac
  simp only [Bool.or_eq_true, beq_iff_eq, or_assoc]
theorem num_end {T : ByteArray} {k m : Nat} (hk : k < m) (hm : m ≤ T.size) (hd : ∀ i, k ≤ i → i < m → digit (byteAt T i) = true) (h : (byteAt T k = 48 ∧ m = k + 1) ∨ (byteAt T k ≠ 48 ∧ (m = T.size ∨ digit (byteAt T m) = false))) : numEnd T k = m := by
  unfold numEnd
  rcases h with ⟨h1, h2⟩ | ⟨h1, h2⟩
  · rw [if_pos h1, h2]
  · rw [if_neg h1]
    exact dg_eq T (k + 1) m (by omega) hm (fun i a b => hd i (by omega) b) h2
theorem num_at {T : ByteArray} {n k m : Nat} {mi : Bool} (hk : k < m) (hm : m ≤ T.size) (hd : ∀ i, k ≤ i → i < m → digit (byteAt T i) = true) (h : (byteAt T k = 48 ∧ m = k + 1) ∨ (byteAt T k ≠ 48 ∧ (m = T.size ∨ digit (byteAt T m) = false))) (hmi : (mi = true ∧ byteAt T n = 45 ∧ k = n + 1) ∨ (mi = false ∧ k = n)) : numAt T n k = numZ T n m mi (dv 0 (bytesOf T k m)) := by
  unfold numAt
  rw [if_pos (by omega), if_pos (hd k (Nat.le_refl _) hk), num_end hk hm hd h]
  exact num_fin hk hm hd hmi
set_option maxHeartbeats 8000000 in
set_option maxRecDepth 100000 in
theorem number_code (r : Nat) (T : ByteArray) (n : Nat) (w : World) (hT : T.size ≤ 65536) (h : Hid (RT w r T (n : Int) 0 0)) (hn : n < T.size) (hst : byteAt T n = 45 ∨ digit (byteAt T n) = true) :
    Calls Tryz.prog 36 #[.pointer (some ⟨r, 0, none⟩)] w fun x w' => (∃ z : Int, x = .returned (.int .i64 z) ∧ ∀ v q, numR T n = .ok v q → z = v) ∧ RSt w' r T (numR T n) ∧ FrP (· = r) w w' := by
  obtain ⟨R, hR⟩ : ∃ R, Hid (numR T n = R) := ⟨_, hid_e rfl⟩
  rw [hR.out]
  unfold numR at hR
  obtain ⟨y0, y1, y2, y3, yf⟩ := h.out.cells
  have yf1 := yf 1
  clear yf y2 y3
  have i1 : (n : Int) < (T.size : Int) := by omega
  have i0 : (0 : Int) ≤ (n : Int) := by omega
  have heb := byteAt_eq hn
  have hn9 : (n : Int) ≤ 70000 := by omega
  obtain ⟨b0, hb0⟩ : ∃ z : Int, Hid (((byteAt T n).toNat : Int) = z) := ⟨_, hid_e rfl⟩
  by_cases h45 : byteAt T n = 45
  · rw [if_pos h45] at hR
    have c0 : (b0 == 45) = true := by rw [← hb0.out, h45]; rfl
    replace h45 := hid_e h45
    have hW := hid_e (h.out.set1 ((n : Int) + 1))
    go_enter Tryz.func36, Tryz.ntmps36
    go_upto_region 2 with fail
    go_region
    rw [hb0.out]
    go_upto_region 5 with fail
    clear y0 y1 yf1
    have hRW : RT ((w.setCell ⟨r, 1, none⟩ (.int .i64 ((n : Int) + 1))).drew) r T ((n + 1 : Nat) : Int) 0 0 := by rw [show ((n + 1 : Nat) : Int) = (n : Int) + 1 by omega]; exact hW.out
    have hFW : FrP (· = r) w ((w.setCell ⟨r, 1, none⟩ (.int .i64 ((n : Int) + 1))).drew) := ((FrP.refl (· = r) w).set _ _ (.inl rfl)).drew
    generalize (w.setCell ⟨r, 1, none⟩ (.int .i64 ((n : Int) + 1))).drew = W at hRW hFW ⊢
    clear hW h
    replace hst := hid_e hst
    obtain ⟨kk, hkk0⟩ : ∃ k, Hid (n + 1 = k) := ⟨_, hid_e rfl⟩
    replace hR : Hid (numAt T n kk = R) := by rw [Hid, ← hkk0.out]; exact hR.out
    rw [hkk0.out] at hRW
    clear i1 i0 heb c0 hb0
    have hkk1 : kk ≤ T.size := by have := hkk0.out; omega
    by_cases hks : kk < T.size
    rotate_left
    · have hkk : kk = T.size := by omega
      have hRe : Hid (R = .bad 3 T.size) := by rw [Hid, ← hR.out]; unfold numAt; rw [if_neg hks]
      have hn := hid_e (next_short r T W (by rw [← hkk]; exact hRW))
      replace hkk := hid_e hkk
      go_wp2_with fail
      go_fit hn.out
      clear hn
      rintro e w2 ⟨rfl, hS2, hF2⟩
      obtain ⟨-, -, y2, -, -⟩ := hS2.cells
      go_wp2_with fail
      go_ret
      rw [hRe.out]
      exact ⟨⟨0, rfl, fun v q e => by cases e⟩, ⟨by decide, _, hS2⟩, hFW.trans hF2⟩
    have hn := hid_e (next_byte r T kk W hRW hks)
    go_wp2_with fail
    go_fit hn.out
    clear hn
    rintro e w2 ⟨rfl, hS2, hF2⟩
    have hF2' := hFW.trans hF2
    clear hF2 hRW hFW
    obtain ⟨c, hc⟩ : ∃ z : Int, Hid (((byteAt T kk).toNat : Int) = z) := ⟨_, hid_e rfl⟩
    rw [hc.out]
    obtain ⟨y0, y1, y2, y3, -⟩ := hS2.cells
    cases hdk : digit (byteAt T kk) with
    | false =>
      have hRe : Hid (R = .bad 10 kk) := by rw [Hid, ← hR.out]; unfold numAt; rw [if_pos hks, if_neg (by rw [hdk]; decide)]
      have hfl := hid_e (fail_code r T (kk : Int) (kk : Int) 10 w2 hS2)
      have hnd : c < 48 ∨ 57 < c := by
        have h1 : ¬ (48 ≤ (byteAt T kk).toNat ∧ (byteAt T kk).toNat ≤ 57) := fun h => by rw [(dig_iff _).2 h] at hdk; cases hdk
        have := hc.out
        omega
      have hcs : (c < 48) ∨ (¬ c < 48 ∧ 57 < c) := by omega
      clear hdk hnd
      rcases hcs with c1 | ⟨c1, c2⟩
      all_goals
        go_wp2_with fail
        go_fit hfl.out
        rintro e w5 ⟨rfl, hS5, hF5⟩
        obtain ⟨-, -, x2, -, -⟩ := hS5.cells
        go_wp2_with fail
        go_ret
        rw [hRe.out]
        exact ⟨⟨0, rfl, fun v q e => by cases e⟩, ⟨by decide, _, hS5⟩, hF2'.trans hF5⟩
    | true =>
      have hk48 := (dig_iff _).1 hdk
      have c1 : ¬ c < 48 := by have := hc.out; omega
      have c2 : ¬ 57 < c := by have := hc.out; omega
      replace hdk := hid_e hdk
      go_wp2_with fail
      clear y0 y1 y2 y3
      go_loopg [7, 8] (T.size + 1) (fun gk nv wv wr => ∃ (j N : Nat) (wd : Bool), kk ≤ j ∧ j ≤ T.size ∧ T.size - j < gk ∧ nv = .int .u64 (N : Int) ∧ wv = .bool wd ∧ Hid (∀ i, kk ≤ i → i < j → digit (byteAt T i) = true) ∧ Hid (NumSo wd N (dv 0 (bytesOf T kk j))) ∧ Hid (kk < j → byteAt T kk ≠ 48 ∧ 1 ≤ N) ∧ Hid (RT wr r T (j : Int) 0 0) ∧ Hid (FrP (· = r) w wr))
      case atStart => exact ⟨kk, 0, false, Nat.le_refl _, by omega, by omega, rfl, rfl, hid_e (fun i a b => by omega), hid_e (.inl ⟨rfl, by rw [bytes_none]; rfl, by rw [bytes_none]; show 0 ≤ _; omega⟩), hid_e (fun h => by omega), hid_e hS2, hid_e hF2'⟩
      case round =>
        clear hS2 hF2'
        obtain ⟨j, N, wd, hj1, hj2, hgk, rfl, rfl, hdj, hNS, hfst, hA, hF⟩ := hrel
        obtain ⟨g', rfl⟩ : ∃ g', gk = g' + 1 := ⟨gk - 1, by omega⟩
        have hA' := hA.out
        obtain ⟨y0, y1, y2, y3, -⟩ := hA'.cells
        have j0 : (0 : Int) ≤ (j : Int) := by omega
        by_cases hjs : j < T.size
        rotate_left
        · have i1 : ¬ (j : Int) < (T.size : Int) := by omega
          have hkj : kk < j := by
            rcases Nat.lt_or_ge kk j with h | h
            · exact h
            · exfalso
              obtain rfl : j = kk := by omega
              omega
          have hne48 := (hfst.out hkj).1
          have hRV : Hid (R = numZ T n j true (dv 0 (bytesOf T kk j))) := by
            rw [Hid, ← hR.out]
            exact num_at hkj hj2 hdj.out (.inr ⟨hne48, .inl (by omega)⟩) (.inl ⟨rfl, h45.out, hkk0.out.symm⟩)
          replace hne48 := hid_e hne48
          generalize hVV : dv 0 (bytesOf T kk j) = V at hNS hRV
          clear hVV
          go_upto_region 12 with fail
          go_big_quiet (fail)
          clear y0 y1 y2 y3
          have hRX : RT (wr.drewN nq) r T (j : Int) 0 0 := hA.out
          have hFX := hF.out.drewN nq
          generalize wr.drewN nq = X at hRX hFX ⊢
          clear i1
          obtain ⟨y0, y1, y2, y3, -⟩ := hRX.cells
          by_cases hbad : wd = true
          · have hRe : Hid (R = .bad 15 n) := by
              rw [Hid, hRV.out]
              unfold numZ
              rw [if_pos ?_]
              rcases hNS.out with ⟨a1, a2, a3⟩ | ⟨a1, a2, a3, a4⟩
              · rw [a1] at hbad; cases hbad
              · exact .inr a2
            have hfl := hid_e (fail_code r T (j : Int) (n : Int) 15 X hRX)
            clear y0 y1 y2 y3 hRV
            cases wd
            · cases hbad
            · clear hbad
              obtain ⟨NN, hNN⟩ : ∃ z : Int, Hid ((N : Int) = z) := ⟨_, hid_e rfl⟩
              rw [hNN.out]
              clear hNS
              go_wp2_with fail
              go_fit hfl.out
              rintro e w5 ⟨rfl, hS5, hF5⟩
              go_wp2_with fail
              go_ret
              rw [hRe.out]
              exact ⟨⟨0, rfl, fun v q e => by cases e⟩, ⟨by decide, _, hS5⟩, hFX.trans hF5⟩
          obtain rfl : wd = false := by cases wd with | false => rfl | true => exact absurd (rfl) hbad
          obtain ⟨rfl, hV63⟩ : N = V ∧ V ≤ 9223372036854775808 := by
            rcases hNS.out with ⟨-, a2, a3⟩ | ⟨a1, -⟩
            · exact ⟨a2, a3⟩
            · cases a1
          have hRV2 : Hid (R = if j < T.size ∧ frac (byteAt T j) = true then .bad 14 j else .ok (-(N : Int)) j) := by
            rw [Hid, hRV.out]
            unfold numZ
            rw [if_neg (by simp; omega)]
            rfl
          clear hRV hbad hNS
          have hcv := neg_back hV63
          obtain ⟨NN, hNN⟩ : ∃ z : Int, Hid ((N : Int) = z) := ⟨_, hid_e rfl⟩
          rw [hNN.out] at hcv hRV2 ⊢
          replace hV63 := hid_e hV63
          · have i1 : ¬ (j : Int) < (T.size : Int) := by omega
            have hRe : Hid (R = .ok (-NN) j) := by rw [Hid, hRV2.out, if_neg (by intro h; exact hjs h.1)]
            go_upto_region 23 with fail
            go_big_quiet (fail)
            go_wp2_with fail
            go_ret
            rw [hRe.out]
            exact ⟨⟨_, rfl, fun v q e => by first | exact (Res.ok.inj e).1 | exact hcv.trans (Res.ok.inj e).1⟩, hRX, hFX.drewN _⟩
        have i1 : (j : Int) < (T.size : Int) := by omega
        have heb := byteAt_eq hjs
        cases hdj2 : digit (byteAt T j) with
        | false =>
          have hkj : kk < j := by
            rcases Nat.lt_or_ge kk j with h | h
            · exact h
            · exfalso
              obtain rfl : j = kk := by omega
              rw [hdk.out] at hdj2; cases hdj2
          have hne48 := (hfst.out hkj).1
          have hRV : Hid (R = numZ T n j true (dv 0 (bytesOf T kk j))) := by
            rw [Hid, ← hR.out]
            exact num_at hkj hj2 hdj.out (.inr ⟨hne48, .inr hdj2⟩) (.inl ⟨rfl, h45.out, hkk0.out.symm⟩)
          replace hne48 := hid_e hne48
          generalize hVV : dv 0 (bytesOf T kk j) = V at hNS hRV
          clear hVV
          have hcs : (((byteAt T j).toNat : Int) < 48) ∨ (¬ ((byteAt T j).toNat : Int) < 48 ∧ 57 < ((byteAt T j).toNat : Int)) := by
            have h1 : ¬ (48 ≤ (byteAt T j).toNat ∧ (byteAt T j).toNat ≤ 57) := fun h => by rw [(dig_iff _).2 h] at hdj2; cases hdj2
            omega
          clear hdj2
          rcases hcs with d1 | ⟨d1, d2⟩
          · go_upto_region 12 with fail
            have p1 : decide (48 ≤ ((byteAt T j).toNat : Int)) = false := by rw [decide_eq_false_iff_not]; omega
            have p2 : ¬ 48 ≤ ((byteAt T j).toNat : Int) := by omega
            have p3 : ¬ 48 ≤ (byteAt T j).toNat := by omega
            go_big_quiet (fail)
            clear y0 y1 y2 y3
            have hRX : RT (wr.drewN nq) r T (j : Int) 0 0 := hA.out
            have hFX := hF.out.drewN nq
            generalize wr.drewN nq = X at hRX hFX ⊢
            clear i1
            obtain ⟨y0, y1, y2, y3, -⟩ := hRX.cells
            by_cases hbad : wd = true
            · have hRe : Hid (R = .bad 15 n) := by
                rw [Hid, hRV.out]
                unfold numZ
                rw [if_pos ?_]
                rcases hNS.out with ⟨a1, a2, a3⟩ | ⟨a1, a2, a3, a4⟩
                · rw [a1] at hbad; cases hbad
                · exact .inr a2
              have hfl := hid_e (fail_code r T (j : Int) (n : Int) 15 X hRX)
              clear y0 y1 y2 y3 hRV
              cases wd
              · cases hbad
              · clear hbad
                obtain ⟨NN, hNN⟩ : ∃ z : Int, Hid ((N : Int) = z) := ⟨_, hid_e rfl⟩
                rw [hNN.out]
                clear hNS
                go_wp2_with fail
                go_fit hfl.out
                rintro e w5 ⟨rfl, hS5, hF5⟩
                go_wp2_with fail
                go_ret
                rw [hRe.out]
                exact ⟨⟨0, rfl, fun v q e => by cases e⟩, ⟨by decide, _, hS5⟩, hFX.trans hF5⟩
            obtain rfl : wd = false := by cases wd with | false => rfl | true => exact absurd (rfl) hbad
            obtain ⟨rfl, hV63⟩ : N = V ∧ V ≤ 9223372036854775808 := by
              rcases hNS.out with ⟨-, a2, a3⟩ | ⟨a1, -⟩
              · exact ⟨a2, a3⟩
              · cases a1
            have hRV2 : Hid (R = if j < T.size ∧ frac (byteAt T j) = true then .bad 14 j else .ok (-(N : Int)) j) := by
              rw [Hid, hRV.out]
              unfold numZ
              rw [if_neg (by simp; omega)]
              rfl
            clear hRV hbad hNS
            have hcv := neg_back hV63
            obtain ⟨NN, hNN⟩ : ∃ z : Int, Hid ((N : Int) = z) := ⟨_, hid_e rfl⟩
            rw [hNN.out] at hcv hRV2 ⊢
            replace hV63 := hid_e hV63
            · have i1 : (j : Int) < (T.size : Int) := by omega
              have i2 : (0 : Int) ≤ (j : Int) := by omega
              have heb := byteAt_eq hjs
              cases hfr : frac (byteAt T j) with
              | true =>
                have hRe : Hid (R = .bad 14 j) := by rw [Hid, hRV2.out, if_pos ⟨hjs, hfr⟩]
                have hfl := fun q0 : Nat => hid_e (fail_code r T (j : Int) (j : Int) 14 (X.drewN q0) hRX)
                have hcs : ((((byteAt T j).toNat : Int) == 46) = true) ∨ ((((byteAt T j).toNat : Int) == 46) = false ∧ (((byteAt T j).toNat : Int) == 101) = true) ∨ ((((byteAt T j).toNat : Int) == 46) = false ∧ (((byteAt T j).toNat : Int) == 101) = false ∧ (((byteAt T j).toNat : Int) == 69) = true) := by
                  rcases (frac_iff _).1 hfr with h | h | h <;> rw [h] <;> decide
                clear hfr hRV2
                rcases hcs with c1 | ⟨c1, c2⟩ | ⟨c1, c2, c3⟩
                all_goals
                  go_upto_region 23 with fail
                  go_big_quiet (fail)
                  go_wp2_with fail
                  go_fit (hfl _).out
                  rintro e w5 ⟨rfl, hS5, hF5⟩
                  go_wp2_with fail
                  go_ret
                  rw [hRe.out]
                  exact ⟨⟨0, rfl, fun v q e => by cases e⟩, ⟨by decide, _, hS5⟩, (hFX.drewN _).trans hF5⟩
              | false =>
                have hRe : Hid (R = .ok (-NN) j) := by rw [Hid, hRV2.out, if_neg (by intro h; rw [hfr] at h; cases h.2)]
                have hn3 : byteAt T j ≠ 46 ∧ byteAt T j ≠ 101 ∧ byteAt T j ≠ 69 := by
                  refine ⟨?_, ?_, ?_⟩ <;> (intro h; rw [h] at hfr; revert hfr; decide)
                have c1 := byte_ne hn3.1
                have c2 := byte_ne hn3.2.1
                have c3 := byte_ne hn3.2.2
                replace c1 : (((byteAt T j).toNat : Int) == 46) = false := c1
                replace c2 : (((byteAt T j).toNat : Int) == 101) = false := c2
                replace c3 : (((byteAt T j).toNat : Int) == 69) = false := c3
                clear hfr hRV2 hn3
                go_upto_region 23 with fail
                go_big_quiet (fail)
                go_wp2_with fail
                go_ret
                rw [hRe.out]
                exact ⟨⟨_, rfl, fun v q e => by first | exact (Res.ok.inj e).1 | exact hcv.trans (Res.ok.inj e).1⟩, hRX, hFX.drewN _⟩
          · go_upto_region 12 with fail
            have p1 : decide (48 ≤ ((byteAt T j).toNat : Int)) = true := by rw [decide_eq_true_eq]; omega
            have p2 : 48 ≤ ((byteAt T j).toNat : Int) := by omega
            have p3 : 48 ≤ (byteAt T j).toNat := by omega
            have p4 : decide (((byteAt T j).toNat : Int) ≤ 57) = false := by rw [decide_eq_false_iff_not]; omega
            have p5 : ¬ ((byteAt T j).toNat : Int) ≤ 57 := by omega
            have p6 : ¬ (byteAt T j).toNat ≤ 57 := by omega
            go_big_quiet (fail)
            clear y0 y1 y2 y3
            have hRX : RT (wr.drewN nq) r T (j : Int) 0 0 := hA.out
            have hFX := hF.out.drewN nq
            generalize wr.drewN nq = X at hRX hFX ⊢
            clear i1
            obtain ⟨y0, y1, y2, y3, -⟩ := hRX.cells
            by_cases hbad : wd = true
            · have hRe : Hid (R = .bad 15 n) := by
                rw [Hid, hRV.out]
                unfold numZ
                rw [if_pos ?_]
                rcases hNS.out with ⟨a1, a2, a3⟩ | ⟨a1, a2, a3, a4⟩
                · rw [a1] at hbad; cases hbad
                · exact .inr a2
              have hfl := hid_e (fail_code r T (j : Int) (n : Int) 15 X hRX)
              clear y0 y1 y2 y3 hRV
              cases wd
              · cases hbad
              · clear hbad
                obtain ⟨NN, hNN⟩ : ∃ z : Int, Hid ((N : Int) = z) := ⟨_, hid_e rfl⟩
                rw [hNN.out]
                clear hNS
                go_wp2_with fail
                go_fit hfl.out
                rintro e w5 ⟨rfl, hS5, hF5⟩
                go_wp2_with fail
                go_ret
                rw [hRe.out]
                exact ⟨⟨0, rfl, fun v q e => by cases e⟩, ⟨by decide, _, hS5⟩, hFX.trans hF5⟩
            obtain rfl : wd = false := by cases wd with | false => rfl | true => exact absurd (rfl) hbad
            obtain ⟨rfl, hV63⟩ : N = V ∧ V ≤ 9223372036854775808 := by
              rcases hNS.out with ⟨-, a2, a3⟩ | ⟨a1, -⟩
              · exact ⟨a2, a3⟩
              · cases a1
            have hRV2 : Hid (R = if j < T.size ∧ frac (byteAt T j) = true then .bad 14 j else .ok (-(N : Int)) j) := by
              rw [Hid, hRV.out]
              unfold numZ
              rw [if_neg (by simp; omega)]
              rfl
            clear hRV hbad hNS
            have hcv := neg_back hV63
            obtain ⟨NN, hNN⟩ : ∃ z : Int, Hid ((N : Int) = z) := ⟨_, hid_e rfl⟩
            rw [hNN.out] at hcv hRV2 ⊢
            replace hV63 := hid_e hV63
            · have i1 : (j : Int) < (T.size : Int) := by omega
              have i2 : (0 : Int) ≤ (j : Int) := by omega
              have heb := byteAt_eq hjs
              cases hfr : frac (byteAt T j) with
              | true =>
                have hRe : Hid (R = .bad 14 j) := by rw [Hid, hRV2.out, if_pos ⟨hjs, hfr⟩]
                have hfl := fun q0 : Nat => hid_e (fail_code r T (j : Int) (j : Int) 14 (X.drewN q0) hRX)
                have hcs : ((((byteAt T j).toNat : Int) == 46) = true) ∨ ((((byteAt T j).toNat : Int) == 46) = false ∧ (((byteAt T j).toNat : Int) == 101) = true) ∨ ((((byteAt T j).toNat : Int) == 46) = false ∧ (((byteAt T j).toNat : Int) == 101) = false ∧ (((byteAt T j).toNat : Int) == 69) = true) := by
                  rcases (frac_iff _).1 hfr with h | h | h <;> rw [h] <;> decide
                clear hfr hRV2
                rcases hcs with c1 | ⟨c1, c2⟩ | ⟨c1, c2, c3⟩
                all_goals
                  go_upto_region 23 with fail
                  go_big_quiet (fail)
                  go_wp2_with fail
                  go_fit (hfl _).out
                  rintro e w5 ⟨rfl, hS5, hF5⟩
                  go_wp2_with fail
                  go_ret
                  rw [hRe.out]
                  exact ⟨⟨0, rfl, fun v q e => by cases e⟩, ⟨by decide, _, hS5⟩, (hFX.drewN _).trans hF5⟩
              | false =>
                have hRe : Hid (R = .ok (-NN) j) := by rw [Hid, hRV2.out, if_neg (by intro h; rw [hfr] at h; cases h.2)]
                have hn3 : byteAt T j ≠ 46 ∧ byteAt T j ≠ 101 ∧ byteAt T j ≠ 69 := by
                  refine ⟨?_, ?_, ?_⟩ <;> (intro h; rw [h] at hfr; revert hfr; decide)
                have c1 := byte_ne hn3.1
                have c2 := byte_ne hn3.2.1
                have c3 := byte_ne hn3.2.2
                replace c1 : (((byteAt T j).toNat : Int) == 46) = false := c1
                replace c2 : (((byteAt T j).toNat : Int) == 101) = false := c2
                replace c3 : (((byteAt T j).toNat : Int) == 69) = false := c3
                clear hfr hRV2 hn3
                go_upto_region 23 with fail
                go_big_quiet (fail)
                go_wp2_with fail
                go_ret
                rw [hRe.out]
                exact ⟨⟨_, rfl, fun v q e => by first | exact (Res.ok.inj e).1 | exact hcv.trans (Res.ok.inj e).1⟩, hRX, hFX.drewN _⟩
        | true =>
          have hd48 := (dig_iff _).1 hdj2
          have d1 : ¬ ((byteAt T j).toNat : Int) < 48 := by omega
          have d2 : ¬ 57 < ((byteAt T j).toNat : Int) := by omega
          replace hdj2 := hid_e hdj2
          go_upto_region 12 with fail
          have p1 : decide (48 ≤ ((byteAt T j).toNat : Int)) = true := by rw [decide_eq_true_eq]; omega
          have p2 : 48 ≤ ((byteAt T j).toNat : Int) := by omega
          have p3 : 48 ≤ (byteAt T j).toNat := by omega
          have p4 : decide (((byteAt T j).toNat : Int) ≤ 57) = true := by rw [decide_eq_true_eq]; omega
          have p5 : ((byteAt T j).toNat : Int) ≤ 57 := by omega
          have p6 : (byteAt T j).toNat ≤ 57 := by omega
          go_big_quiet (fail)
          clear y0 y1 y2 y3
          have hRX : RT (wr.drewN nq) r T (j : Int) 0 0 := hA.out
          have hFX := hF.out.drewN nq
          generalize wr.drewN nq = X at hRX hFX ⊢
          clear hA hF hA' d1 d2
          obtain ⟨y0, y1, y2, y3, yf⟩ := hRX.cells
          have yf1 := yf 1
          clear yf
          go_upto_region 13 with fail
          go_big_quiet (fail)
          clear p1 p3 p4 p6 heb i1 j0
          obtain ⟨D, hD⟩ : ∃ z : Int, Hid (((byteAt T j).toNat : Int) - 48 = z) := ⟨_, hid_e rfl⟩
          rw [hD.out]
          have hD0 : 0 ≤ D := by have := hD.out; omega
          have hD9 : D ≤ 9 := by have := hD.out; omega
          have hj9 : (j : Int) ≤ 70000 := by omega
          have hR1 : RT ((X.drewN nq).setCell ⟨r, 1, none⟩ (.int .i64 ((j : Int) + 1))) r T ((j : Int) + 1) 0 0 := RT.set1 (w := X.drewN nq) hRX ((j : Int) + 1)
          have hF1 : FrP (· = r) w ((X.drewN nq).setCell ⟨r, 1, none⟩ (.int .i64 ((j : Int) + 1))) := (hFX.drewN nq).set _ _ (.inl rfl)
          replace hR1 := hid_e hR1
          replace hF1 := hid_e hF1
          replace hRX := hid_e hRX
          replace hFX := hid_e hFX
          have hV : Hid (dv 0 (bytesOf T kk (j + 1)) = dv 0 (bytesOf T kk j) * 10 + ((byteAt T j).toNat - 48)) := by rw [Hid, bytes_snoc hj1 hjs, dv_snoc]
          have hdj' : Hid (∀ i, kk ≤ i → i < j + 1 → digit (byteAt T i) = true) := hid_e (fun i a b => (Nat.lt_or_ge i j).elim (fun c => hdj.out i a c) (fun c => by obtain rfl : i = j := (by omega); exact hdj2.out))
          clear p2 p5
          by_cases hgt : (9223372036854775808 - D) / 10 < (N : Int)
          · have hN0 : ¬ N = 0 := by omega
            have hNS' : Hid (NumSo true N (dv 0 (bytesOf T kk (j + 1)))) := by
              rw [Hid, hV.out]
              have hDD := hD.out
              refine .inr ⟨rfl, ?_, by omega, ?_⟩ <;> (rcases hNS.out with ⟨-, a, b⟩ | ⟨-, a, b, c⟩ <;> omega)
            have hf' : Hid (kk < j + 1 → byteAt T kk ≠ 48 ∧ 1 ≤ N) := by
              intro _
              refine ⟨?_, by omega⟩
              rcases Nat.lt_or_ge kk j with h | h
              · exact (hfst.out h).1
              · exfalso
                obtain rfl : kk = j := by omega
                rcases hNS.out with ⟨-, a, -⟩ | ⟨-, a, -, -⟩
                · rw [bytes_none] at a
                  exact hN0 a
                · rw [bytes_none] at a
                  exact absurd a (by show ¬ (_ < 0); omega)
            go_wp2_with fail
            go_roundg g'
            case measure => omega
            case rel => exact ⟨j + 1, N, true, by omega, by omega, by omega, rfl, rfl, hdj', hNS', hf', hid_e hR1.out, hid_e hF1.out⟩
          cases wd with
          | true =>
            have hN0 : ¬ N = 0 := by
              rcases hNS.out with ⟨a, -⟩ | ⟨-, -, b, -⟩
              · cases a
              · omega
            have hNS' : Hid (NumSo true N (dv 0 (bytesOf T kk (j + 1)))) := by
              rw [Hid, hV.out]
              refine .inr ⟨rfl, ?_, by omega, ?_⟩ <;> (rcases hNS.out with ⟨a, -⟩ | ⟨-, a, b, c⟩ <;> first | omega | cases a)
            have hf' : Hid (kk < j + 1 → byteAt T kk ≠ 48 ∧ 1 ≤ N) := by
              intro _
              refine ⟨?_, by omega⟩
              rcases Nat.lt_or_ge kk j with h | h
              · exact (hfst.out h).1
              · exfalso
                obtain rfl : kk = j := by omega
                rcases hNS.out with ⟨a, -⟩ | ⟨-, a, -, -⟩
                · cases a
                · rw [bytes_none] at a
                  exact absurd a (by show ¬ (_ < 0); omega)
            go_wp2_with fail
            go_roundg g'
            case measure => omega
            case rel => exact ⟨j + 1, N, true, by omega, by omega, by omega, rfl, rfl, hdj', hNS', hf', hid_e hR1.out, hid_e hF1.out⟩
          | false =>
            obtain ⟨hNV, hN63b⟩ : N = dv 0 (bytesOf T kk j) ∧ N ≤ 9223372036854775808 := by
              rcases hNS.out with ⟨-, a, b⟩ | ⟨a, -⟩
              · exact ⟨a, by omega⟩
              · cases a
            by_cases hz : kk = j ∧ byteAt T j = 48
            · obtain ⟨e, h48⟩ := hz
              subst e
              have hN00 : N = 0 := by rw [hNV, bytes_none]; rfl
              have hD00 : D = 0 := by rw [← hD.out, h48]; rfl
              have hc48 : c = 48 := by rw [← hc.out, h48]; rfl
              have hRV2 : Hid (R = if kk + 1 < T.size ∧ frac (byteAt T (kk + 1)) = true then .bad 14 (kk + 1) else .ok 0 (kk + 1)) := by
                rw [Hid, ← hR.out, num_at (m := kk + 1) (mi := true) (by omega) (by omega) hdj'.out (.inl ⟨h48, rfl⟩) (.inl ⟨rfl, h45.out, hkk0.out.symm⟩), hV.out, ← hNV, hN00, h48]
                show numZ T n (kk + 1) true 0 = _
                unfold numZ
                rw [if_neg (by simp)]
                rfl
              clear hNV hNS hfst hdj hdj' hV hdj2 hgt hd48 hk48 hN63b h48 hD0 hD9 hRX hFX c1 c2
              subst hN00 hD00 hc48
              go_upto_region 20 with fail
              clear y0 y1 y2 y3 yf1
              have hRX : RT ((X.drewN nq).setCell ⟨r, 1, none⟩ (.int .i64 ((kk : Int) + 1))) r T ((kk + 1 : Nat) : Int) 0 0 := hR1.out
              have hFX := hF1.out
              clear hR1 hF1
              generalize (X.drewN nq).setCell ⟨r, 1, none⟩ (.int .i64 ((kk : Int) + 1)) = X at hRX hFX ⊢
              obtain ⟨m2, hm2⟩ : ∃ m, Hid (kk + 1 = m) := ⟨_, hid_e rfl⟩
              rw [hm2.out] at hRX hRV2
              obtain ⟨y0, y1, y2, y3, -⟩ := hRX.cells
              by_cases hs2 : m2 < T.size
              · have i1 : (m2 : Int) < (T.size : Int) := by omega
                have i2 : (0 : Int) ≤ (m2 : Int) := by omega
                have heb := byteAt_eq hs2
                cases hfr : frac (byteAt T m2) with
                | true =>
                  have hRe : Hid (R = .bad 14 m2) := by rw [Hid, hRV2.out, if_pos ⟨hs2, hfr⟩]
                  have hfl := fun q0 : Nat => hid_e (fail_code r T (m2 : Int) (m2 : Int) 14 (X.drewN q0) hRX)
                  have hcs : ((((byteAt T m2).toNat : Int) == 46) = true) ∨ ((((byteAt T m2).toNat : Int) == 46) = false ∧ (((byteAt T m2).toNat : Int) == 101) = true) ∨ ((((byteAt T m2).toNat : Int) == 46) = false ∧ (((byteAt T m2).toNat : Int) == 101) = false ∧ (((byteAt T m2).toNat : Int) == 69) = true) := by
                    rcases (frac_iff _).1 hfr with h | h | h <;> rw [h] <;> decide
                  clear hfr hRV2
                  rcases hcs with c1 | ⟨c1, c2⟩ | ⟨c1, c2, c3⟩
                  all_goals
                    go_upto_region 23 with fail
                    go_big_quiet (fail)
                    go_wp2_with fail
                    go_fit (hfl _).out
                    rintro e w5 ⟨rfl, hS5, hF5⟩
                    go_wp2_with fail
                    go_ret
                    rw [hRe.out]
                    exact ⟨⟨0, rfl, fun v q e => by cases e⟩, ⟨by decide, _, hS5⟩, (hFX.drewN _).trans hF5⟩
                | false =>
                  have hRe : Hid (R = .ok (0) m2) := by rw [Hid, hRV2.out, if_neg (by intro h; rw [hfr] at h; cases h.2)]
                  have hn3 : byteAt T m2 ≠ 46 ∧ byteAt T m2 ≠ 101 ∧ byteAt T m2 ≠ 69 := by
                    refine ⟨?_, ?_, ?_⟩ <;> (intro h; rw [h] at hfr; revert hfr; decide)
                  have c1 := byte_ne hn3.1
                  have c2 := byte_ne hn3.2.1
                  have c3 := byte_ne hn3.2.2
                  replace c1 : (((byteAt T m2).toNat : Int) == 46) = false := c1
                  replace c2 : (((byteAt T m2).toNat : Int) == 101) = false := c2
                  replace c3 : (((byteAt T m2).toNat : Int) == 69) = false := c3
                  clear hfr hRV2 hn3
                  go_upto_region 23 with fail
                  go_big_quiet (fail)
                  go_wp2_with fail
                  go_ret
                  rw [hRe.out]
                  exact ⟨⟨_, rfl, fun v q e => by first | exact (Res.ok.inj e).1 | exact hcv.trans (Res.ok.inj e).1⟩, hRX, hFX.drewN _⟩
              · have i1 : ¬ (m2 : Int) < (T.size : Int) := by omega
                have hRe : Hid (R = .ok (0) m2) := by rw [Hid, hRV2.out, if_neg (by intro h; exact hs2 h.1)]
                go_upto_region 23 with fail
                go_big_quiet (fail)
                go_wp2_with fail
                go_ret
                rw [hRe.out]
                exact ⟨⟨_, rfl, fun v q e => by first | exact (Res.ok.inj e).1 | exact hcv.trans (Res.ok.inj e).1⟩, hRX, hFX.drewN _⟩
            · have hN1 : 1 ≤ 10 * N + ((byteAt T j).toNat - 48) := by
                rcases Nat.lt_or_ge kk j with h | h
                · have := (hfst.out h).2
                  omega
                · have e : kk = j := by omega
                  have h48 : (byteAt T j).toNat ≠ 48 := fun h => hz ⟨e, UInt8.toNat_inj.1 h⟩
                  omega
              have hN0 : ¬ 10 * (N : Int) + D = 0 := by have := hD.out; omega
              have hNS' : Hid (NumSo false (10 * N + ((byteAt T j).toNat - 48)) (dv 0 (bytesOf T kk (j + 1)))) := by
                rw [Hid, hV.out, ← hNV]
                have := hD.out
                refine .inl ⟨rfl, by omega, by omega⟩
              have hf' : Hid (kk < j + 1 → byteAt T kk ≠ 48 ∧ 1 ≤ 10 * N + ((byteAt T j).toNat - 48)) := by
                intro _
                refine ⟨?_, hN1⟩
                rcases Nat.lt_or_ge kk j with h | h
                · exact (hfst.out h).1
                · obtain rfl : kk = j := by omega
                  exact fun h => hz ⟨rfl, h⟩
              have heN : Hid (10 * (N : Int) + D = ((10 * N + ((byteAt T j).toNat - 48) : Nat) : Int)) := by
                rw [Hid]
                have := hD.out
                omega
              clear hNV hz hN1
              go_wp2_with fail
              go_roundg g'
              case measure => omega
              case rel => exact ⟨j + 1, _, false, by omega, by omega, by omega, congrArg (Value.int .u64) heN.out, rfl, hdj', hNS', hf', hid_e hR1.out, hid_e hF1.out⟩
  · rw [if_neg h45] at hR
    have c0 : (b0 == 45) = false := by rw [← hb0.out]; exact byte_ne h45
    replace h45 := hid_e h45
    go_enter Tryz.func36, Tryz.ntmps36
    go_upto_region 2 with fail
    go_region
    rw [hb0.out]
    go_upto_region 5 with fail
    clear y0 y1 yf1
    have hRW : RT w.drew r T (n : Int) 0 0 := h.out
    have hFW : FrP (· = r) w w.drew := (FrP.refl (· = r) w).drew
    generalize w.drew = W at hRW hFW ⊢
    clear h
    replace hst := hid_e hst
    obtain ⟨kk, hkk0⟩ : ∃ k, Hid (n = k) := ⟨_, hid_e rfl⟩
    replace hR : Hid (numAt T n kk = R) := by rw [Hid, ← hkk0.out]; exact hR.out
    replace hRW : RT W r T (kk : Int) 0 0 := by rw [← hkk0.out]; exact hRW
    clear i1 i0 heb c0 hb0
    have hkk1 : kk ≤ T.size := by have := hkk0.out; omega
    by_cases hks : kk < T.size
    rotate_left
    · have hkk : kk = T.size := by omega
      have hRe : Hid (R = .bad 3 T.size) := by rw [Hid, ← hR.out]; unfold numAt; rw [if_neg hks]
      have hn := hid_e (next_short r T W (by rw [← hkk]; exact hRW))
      replace hkk := hid_e hkk
      go_wp2_with fail
      go_fit hn.out
      clear hn
      rintro e w2 ⟨rfl, hS2, hF2⟩
      obtain ⟨-, -, y2, -, -⟩ := hS2.cells
      go_wp2_with fail
      go_ret
      rw [hRe.out]
      exact ⟨⟨0, rfl, fun v q e => by cases e⟩, ⟨by decide, _, hS2⟩, hFW.trans hF2⟩
    have hn := hid_e (next_byte r T kk W hRW hks)
    go_wp2_with fail
    go_fit hn.out
    clear hn
    rintro e w2 ⟨rfl, hS2, hF2⟩
    have hF2' := hFW.trans hF2
    clear hF2 hRW hFW
    obtain ⟨c, hc⟩ : ∃ z : Int, Hid (((byteAt T kk).toNat : Int) = z) := ⟨_, hid_e rfl⟩
    rw [hc.out]
    obtain ⟨y0, y1, y2, y3, -⟩ := hS2.cells
    cases hdk : digit (byteAt T kk) with
    | false =>
      have hRe : Hid (R = .bad 10 kk) := by rw [Hid, ← hR.out]; unfold numAt; rw [if_pos hks, if_neg (by rw [hdk]; decide)]
      have hfl := hid_e (fail_code r T (kk : Int) (kk : Int) 10 w2 hS2)
      have hnd : c < 48 ∨ 57 < c := by
        have h1 : ¬ (48 ≤ (byteAt T kk).toNat ∧ (byteAt T kk).toNat ≤ 57) := fun h => by rw [(dig_iff _).2 h] at hdk; cases hdk
        have := hc.out
        omega
      have hcs : (c < 48) ∨ (¬ c < 48 ∧ 57 < c) := by omega
      clear hdk hnd
      rcases hcs with c1 | ⟨c1, c2⟩
      all_goals
        go_wp2_with fail
        go_fit hfl.out
        rintro e w5 ⟨rfl, hS5, hF5⟩
        obtain ⟨-, -, x2, -, -⟩ := hS5.cells
        go_wp2_with fail
        go_ret
        rw [hRe.out]
        exact ⟨⟨0, rfl, fun v q e => by cases e⟩, ⟨by decide, _, hS5⟩, hF2'.trans hF5⟩
    | true =>
      have hk48 := (dig_iff _).1 hdk
      have c1 : ¬ c < 48 := by have := hc.out; omega
      have c2 : ¬ 57 < c := by have := hc.out; omega
      replace hdk := hid_e hdk
      go_wp2_with fail
      clear y0 y1 y2 y3
      go_loopg [7, 8] (T.size + 1) (fun gk nv wv wr => ∃ (j N : Nat) (wd : Bool), kk ≤ j ∧ j ≤ T.size ∧ T.size - j < gk ∧ nv = .int .u64 (N : Int) ∧ wv = .bool wd ∧ Hid (∀ i, kk ≤ i → i < j → digit (byteAt T i) = true) ∧ Hid (NumSo wd N (dv 0 (bytesOf T kk j))) ∧ Hid (kk < j → byteAt T kk ≠ 48 ∧ 1 ≤ N) ∧ Hid (RT wr r T (j : Int) 0 0) ∧ Hid (FrP (· = r) w wr))
      case atStart => exact ⟨kk, 0, false, Nat.le_refl _, by omega, by omega, rfl, rfl, hid_e (fun i a b => by omega), hid_e (.inl ⟨rfl, by rw [bytes_none]; rfl, by rw [bytes_none]; show 0 ≤ _; omega⟩), hid_e (fun h => by omega), hid_e hS2, hid_e hF2'⟩
      case round =>
        clear hS2 hF2'
        obtain ⟨j, N, wd, hj1, hj2, hgk, rfl, rfl, hdj, hNS, hfst, hA, hF⟩ := hrel
        obtain ⟨g', rfl⟩ : ∃ g', gk = g' + 1 := ⟨gk - 1, by omega⟩
        have hA' := hA.out
        obtain ⟨y0, y1, y2, y3, -⟩ := hA'.cells
        have j0 : (0 : Int) ≤ (j : Int) := by omega
        by_cases hjs : j < T.size
        rotate_left
        · have i1 : ¬ (j : Int) < (T.size : Int) := by omega
          have hkj : kk < j := by
            rcases Nat.lt_or_ge kk j with h | h
            · exact h
            · exfalso
              obtain rfl : j = kk := by omega
              omega
          have hne48 := (hfst.out hkj).1
          have hRV : Hid (R = numZ T n j false (dv 0 (bytesOf T kk j))) := by
            rw [Hid, ← hR.out]
            exact num_at hkj hj2 hdj.out (.inr ⟨hne48, .inl (by omega)⟩) (.inr ⟨rfl, hkk0.out.symm⟩)
          replace hne48 := hid_e hne48
          generalize hVV : dv 0 (bytesOf T kk j) = V at hNS hRV
          clear hVV
          go_upto_region 12 with fail
          go_big_quiet (fail)
          clear y0 y1 y2 y3
          have hRX : RT (wr.drewN nq) r T (j : Int) 0 0 := hA.out
          have hFX := hF.out.drewN nq
          generalize wr.drewN nq = X at hRX hFX ⊢
          clear i1
          obtain ⟨y0, y1, y2, y3, -⟩ := hRX.cells
          by_cases hbad : wd = true ∨ N = 9223372036854775808
          · have hRe : Hid (R = .bad 15 n) := by
              rw [Hid, hRV.out]
              unfold numZ
              rw [if_pos ?_]
              rcases hNS.out with ⟨a1, a2, a3⟩ | ⟨a1, a2, a3, a4⟩
              · rcases hbad with h | h
                · rw [a1] at h; cases h
                · exact .inl ⟨rfl, by omega⟩
              · exact .inr a2
            have hfl := hid_e (fail_code r T (j : Int) (n : Int) 15 X hRX)
            clear y0 y1 y2 y3 hRV
            cases wd
            · have hN63 : ((N : Int) == 9223372036854775808) = true := by
                rcases hbad with h | h
                · cases h
                · rw [h]; rfl
              clear hbad
              obtain ⟨NN, hNN⟩ : ∃ z : Int, Hid ((N : Int) = z) := ⟨_, hid_e rfl⟩
              rw [hNN.out] at hN63 ⊢
              clear hNS
              go_wp2_with fail
              go_fit hfl.out
              rintro e w5 ⟨rfl, hS5, hF5⟩
              go_wp2_with fail
              go_ret
              rw [hRe.out]
              exact ⟨⟨0, rfl, fun v q e => by cases e⟩, ⟨by decide, _, hS5⟩, hFX.trans hF5⟩
            · clear hbad
              obtain ⟨NN, hNN⟩ : ∃ z : Int, Hid ((N : Int) = z) := ⟨_, hid_e rfl⟩
              rw [hNN.out]
              clear hNS
              go_wp2_with fail
              go_fit hfl.out
              rintro e w5 ⟨rfl, hS5, hF5⟩
              go_wp2_with fail
              go_ret
              rw [hRe.out]
              exact ⟨⟨0, rfl, fun v q e => by cases e⟩, ⟨by decide, _, hS5⟩, hFX.trans hF5⟩
          obtain rfl : wd = false := by cases wd with | false => rfl | true => exact absurd (.inl rfl) hbad
          obtain ⟨rfl, hV63⟩ : N = V ∧ V ≤ 9223372036854775808 := by
            rcases hNS.out with ⟨-, a2, a3⟩ | ⟨a1, -⟩
            · exact ⟨a2, a3⟩
            · cases a1
          have hN63 : ((N : Int) == 9223372036854775808) = false := by simp; omega
          have hVlt : N < 9223372036854775808 := by omega
          have hRV2 : Hid (R = if j < T.size ∧ frac (byteAt T j) = true then .bad 14 j else .ok ((N : Int)) j) := by
            rw [Hid, hRV.out]
            unfold numZ
            rw [if_neg (by simp; omega)]
            rfl
          clear hRV hbad hNS
          have hcv := pos_back hVlt
          obtain ⟨NN, hNN⟩ : ∃ z : Int, Hid ((N : Int) = z) := ⟨_, hid_e rfl⟩
          rw [hNN.out] at hcv hRV2 hN63 ⊢
          replace hV63 := hid_e hV63
          replace hVlt := hid_e hVlt
          · have i1 : ¬ (j : Int) < (T.size : Int) := by omega
            have hRe : Hid (R = .ok (NN) j) := by rw [Hid, hRV2.out, if_neg (by intro h; exact hjs h.1)]
            go_upto_region 23 with fail
            go_big_quiet (fail)
            go_wp2_with fail
            go_ret
            rw [hRe.out]
            exact ⟨⟨_, rfl, fun v q e => by first | exact (Res.ok.inj e).1 | exact hcv.trans (Res.ok.inj e).1⟩, hRX, hFX.drewN _⟩
        have i1 : (j : Int) < (T.size : Int) := by omega
        have heb := byteAt_eq hjs
        cases hdj2 : digit (byteAt T j) with
        | false =>
          have hkj : kk < j := by
            rcases Nat.lt_or_ge kk j with h | h
            · exact h
            · exfalso
              obtain rfl : j = kk := by omega
              rw [hdk.out] at hdj2; cases hdj2
          have hne48 := (hfst.out hkj).1
          have hRV : Hid (R = numZ T n j false (dv 0 (bytesOf T kk j))) := by
            rw [Hid, ← hR.out]
            exact num_at hkj hj2 hdj.out (.inr ⟨hne48, .inr hdj2⟩) (.inr ⟨rfl, hkk0.out.symm⟩)
          replace hne48 := hid_e hne48
          generalize hVV : dv 0 (bytesOf T kk j) = V at hNS hRV
          clear hVV
          have hcs : (((byteAt T j).toNat : Int) < 48) ∨ (¬ ((byteAt T j).toNat : Int) < 48 ∧ 57 < ((byteAt T j).toNat : Int)) := by
            have h1 : ¬ (48 ≤ (byteAt T j).toNat ∧ (byteAt T j).toNat ≤ 57) := fun h => by rw [(dig_iff _).2 h] at hdj2; cases hdj2
            omega
          clear hdj2
          rcases hcs with d1 | ⟨d1, d2⟩
          · go_upto_region 12 with fail
            have p1 : decide (48 ≤ ((byteAt T j).toNat : Int)) = false := by rw [decide_eq_false_iff_not]; omega
            have p2 : ¬ 48 ≤ ((byteAt T j).toNat : Int) := by omega
            have p3 : ¬ 48 ≤ (byteAt T j).toNat := by omega
            go_big_quiet (fail)
            clear y0 y1 y2 y3
            have hRX : RT (wr.drewN nq) r T (j : Int) 0 0 := hA.out
            have hFX := hF.out.drewN nq
            generalize wr.drewN nq = X at hRX hFX ⊢
            clear i1
            obtain ⟨y0, y1, y2, y3, -⟩ := hRX.cells
            by_cases hbad : wd = true ∨ N = 9223372036854775808
            · have hRe : Hid (R = .bad 15 n) := by
                rw [Hid, hRV.out]
                unfold numZ
                rw [if_pos ?_]
                rcases hNS.out with ⟨a1, a2, a3⟩ | ⟨a1, a2, a3, a4⟩
                · rcases hbad with h | h
                  · rw [a1] at h; cases h
                  · exact .inl ⟨rfl, by omega⟩
                · exact .inr a2
              have hfl := hid_e (fail_code r T (j : Int) (n : Int) 15 X hRX)
              clear y0 y1 y2 y3 hRV
              cases wd
              · have hN63 : ((N : Int) == 9223372036854775808) = true := by
                  rcases hbad with h | h
                  · cases h
                  · rw [h]; rfl
                clear hbad
                obtain ⟨NN, hNN⟩ : ∃ z : Int, Hid ((N : Int) = z) := ⟨_, hid_e rfl⟩
                rw [hNN.out] at hN63 ⊢
                clear hNS
                go_wp2_with fail
                go_fit hfl.out
                rintro e w5 ⟨rfl, hS5, hF5⟩
                go_wp2_with fail
                go_ret
                rw [hRe.out]
                exact ⟨⟨0, rfl, fun v q e => by cases e⟩, ⟨by decide, _, hS5⟩, hFX.trans hF5⟩
              · clear hbad
                obtain ⟨NN, hNN⟩ : ∃ z : Int, Hid ((N : Int) = z) := ⟨_, hid_e rfl⟩
                rw [hNN.out]
                clear hNS
                go_wp2_with fail
                go_fit hfl.out
                rintro e w5 ⟨rfl, hS5, hF5⟩
                go_wp2_with fail
                go_ret
                rw [hRe.out]
                exact ⟨⟨0, rfl, fun v q e => by cases e⟩, ⟨by decide, _, hS5⟩, hFX.trans hF5⟩
            obtain rfl : wd = false := by cases wd with | false => rfl | true => exact absurd (.inl rfl) hbad
            obtain ⟨rfl, hV63⟩ : N = V ∧ V ≤ 9223372036854775808 := by
              rcases hNS.out with ⟨-, a2, a3⟩ | ⟨a1, -⟩
              · exact ⟨a2, a3⟩
              · cases a1
            have hN63 : ((N : Int) == 9223372036854775808) = false := by simp; omega
            have hVlt : N < 9223372036854775808 := by omega
            have hRV2 : Hid (R = if j < T.size ∧ frac (byteAt T j) = true then .bad 14 j else .ok ((N : Int)) j) := by
              rw [Hid, hRV.out]
              unfold numZ
              rw [if_neg (by simp; omega)]
              rfl
            clear hRV hbad hNS
            have hcv := pos_back hVlt
            obtain ⟨NN, hNN⟩ : ∃ z : Int, Hid ((N : Int) = z) := ⟨_, hid_e rfl⟩
            rw [hNN.out] at hcv hRV2 hN63 ⊢
            replace hV63 := hid_e hV63
            replace hVlt := hid_e hVlt
            · have i1 : (j : Int) < (T.size : Int) := by omega
              have i2 : (0 : Int) ≤ (j : Int) := by omega
              have heb := byteAt_eq hjs
              cases hfr : frac (byteAt T j) with
              | true =>
                have hRe : Hid (R = .bad 14 j) := by rw [Hid, hRV2.out, if_pos ⟨hjs, hfr⟩]
                have hfl := fun q0 : Nat => hid_e (fail_code r T (j : Int) (j : Int) 14 (X.drewN q0) hRX)
                have hcs : ((((byteAt T j).toNat : Int) == 46) = true) ∨ ((((byteAt T j).toNat : Int) == 46) = false ∧ (((byteAt T j).toNat : Int) == 101) = true) ∨ ((((byteAt T j).toNat : Int) == 46) = false ∧ (((byteAt T j).toNat : Int) == 101) = false ∧ (((byteAt T j).toNat : Int) == 69) = true) := by
                  rcases (frac_iff _).1 hfr with h | h | h <;> rw [h] <;> decide
                clear hfr hRV2
                rcases hcs with c1 | ⟨c1, c2⟩ | ⟨c1, c2, c3⟩
                all_goals
                  go_upto_region 23 with fail
                  go_big_quiet (fail)
                  go_wp2_with fail
                  go_fit (hfl _).out
                  rintro e w5 ⟨rfl, hS5, hF5⟩
                  go_wp2_with fail
                  go_ret
                  rw [hRe.out]
                  exact ⟨⟨0, rfl, fun v q e => by cases e⟩, ⟨by decide, _, hS5⟩, (hFX.drewN _).trans hF5⟩
              | false =>
                have hRe : Hid (R = .ok (NN) j) := by rw [Hid, hRV2.out, if_neg (by intro h; rw [hfr] at h; cases h.2)]
                have hn3 : byteAt T j ≠ 46 ∧ byteAt T j ≠ 101 ∧ byteAt T j ≠ 69 := by
                  refine ⟨?_, ?_, ?_⟩ <;> (intro h; rw [h] at hfr; revert hfr; decide)
                have c1 := byte_ne hn3.1
                have c2 := byte_ne hn3.2.1
                have c3 := byte_ne hn3.2.2
                replace c1 : (((byteAt T j).toNat : Int) == 46) = false := c1
                replace c2 : (((byteAt T j).toNat : Int) == 101) = false := c2
                replace c3 : (((byteAt T j).toNat : Int) == 69) = false := c3
                clear hfr hRV2 hn3
                go_upto_region 23 with fail
                go_big_quiet (fail)
                go_wp2_with fail
                go_ret
                rw [hRe.out]
                exact ⟨⟨_, rfl, fun v q e => by first | exact (Res.ok.inj e).1 | exact hcv.trans (Res.ok.inj e).1⟩, hRX, hFX.drewN _⟩
          · go_upto_region 12 with fail
            have p1 : decide (48 ≤ ((byteAt T j).toNat : Int)) = true := by rw [decide_eq_true_eq]; omega
            have p2 : 48 ≤ ((byteAt T j).toNat : Int) := by omega
            have p3 : 48 ≤ (byteAt T j).toNat := by omega
            have p4 : decide (((byteAt T j).toNat : Int) ≤ 57) = false := by rw [decide_eq_false_iff_not]; omega
            have p5 : ¬ ((byteAt T j).toNat : Int) ≤ 57 := by omega
            have p6 : ¬ (byteAt T j).toNat ≤ 57 := by omega
            go_big_quiet (fail)
            clear y0 y1 y2 y3
            have hRX : RT (wr.drewN nq) r T (j : Int) 0 0 := hA.out
            have hFX := hF.out.drewN nq
            generalize wr.drewN nq = X at hRX hFX ⊢
            clear i1
            obtain ⟨y0, y1, y2, y3, -⟩ := hRX.cells
            by_cases hbad : wd = true ∨ N = 9223372036854775808
            · have hRe : Hid (R = .bad 15 n) := by
                rw [Hid, hRV.out]
                unfold numZ
                rw [if_pos ?_]
                rcases hNS.out with ⟨a1, a2, a3⟩ | ⟨a1, a2, a3, a4⟩
                · rcases hbad with h | h
                  · rw [a1] at h; cases h
                  · exact .inl ⟨rfl, by omega⟩
                · exact .inr a2
              have hfl := hid_e (fail_code r T (j : Int) (n : Int) 15 X hRX)
              clear y0 y1 y2 y3 hRV
              cases wd
              · have hN63 : ((N : Int) == 9223372036854775808) = true := by
                  rcases hbad with h | h
                  · cases h
                  · rw [h]; rfl
                clear hbad
                obtain ⟨NN, hNN⟩ : ∃ z : Int, Hid ((N : Int) = z) := ⟨_, hid_e rfl⟩
                rw [hNN.out] at hN63 ⊢
                clear hNS
                go_wp2_with fail
                go_fit hfl.out
                rintro e w5 ⟨rfl, hS5, hF5⟩
                go_wp2_with fail
                go_ret
                rw [hRe.out]
                exact ⟨⟨0, rfl, fun v q e => by cases e⟩, ⟨by decide, _, hS5⟩, hFX.trans hF5⟩
              · clear hbad
                obtain ⟨NN, hNN⟩ : ∃ z : Int, Hid ((N : Int) = z) := ⟨_, hid_e rfl⟩
                rw [hNN.out]
                clear hNS
                go_wp2_with fail
                go_fit hfl.out
                rintro e w5 ⟨rfl, hS5, hF5⟩
                go_wp2_with fail
                go_ret
                rw [hRe.out]
                exact ⟨⟨0, rfl, fun v q e => by cases e⟩, ⟨by decide, _, hS5⟩, hFX.trans hF5⟩
            obtain rfl : wd = false := by cases wd with | false => rfl | true => exact absurd (.inl rfl) hbad
            obtain ⟨rfl, hV63⟩ : N = V ∧ V ≤ 9223372036854775808 := by
              rcases hNS.out with ⟨-, a2, a3⟩ | ⟨a1, -⟩
              · exact ⟨a2, a3⟩
              · cases a1
            have hN63 : ((N : Int) == 9223372036854775808) = false := by simp; omega
            have hVlt : N < 9223372036854775808 := by omega
            have hRV2 : Hid (R = if j < T.size ∧ frac (byteAt T j) = true then .bad 14 j else .ok ((N : Int)) j) := by
              rw [Hid, hRV.out]
              unfold numZ
              rw [if_neg (by simp; omega)]
              rfl
            clear hRV hbad hNS
            have hcv := pos_back hVlt
            obtain ⟨NN, hNN⟩ : ∃ z : Int, Hid ((N : Int) = z) := ⟨_, hid_e rfl⟩
            rw [hNN.out] at hcv hRV2 hN63 ⊢
            replace hV63 := hid_e hV63
            replace hVlt := hid_e hVlt
            · have i1 : (j : Int) < (T.size : Int) := by omega
              have i2 : (0 : Int) ≤ (j : Int) := by omega
              have heb := byteAt_eq hjs
              cases hfr : frac (byteAt T j) with
              | true =>
                have hRe : Hid (R = .bad 14 j) := by rw [Hid, hRV2.out, if_pos ⟨hjs, hfr⟩]
                have hfl := fun q0 : Nat => hid_e (fail_code r T (j : Int) (j : Int) 14 (X.drewN q0) hRX)
                have hcs : ((((byteAt T j).toNat : Int) == 46) = true) ∨ ((((byteAt T j).toNat : Int) == 46) = false ∧ (((byteAt T j).toNat : Int) == 101) = true) ∨ ((((byteAt T j).toNat : Int) == 46) = false ∧ (((byteAt T j).toNat : Int) == 101) = false ∧ (((byteAt T j).toNat : Int) == 69) = true) := by
                  rcases (frac_iff _).1 hfr with h | h | h <;> rw [h] <;> decide
                clear hfr hRV2
                rcases hcs with c1 | ⟨c1, c2⟩ | ⟨c1, c2, c3⟩
                all_goals
                  go_upto_region 23 with fail
                  go_big_quiet (fail)
                  go_wp2_with fail
                  go_fit (hfl _).out
                  rintro e w5 ⟨rfl, hS5, hF5⟩
                  go_wp2_with fail
                  go_ret
                  rw [hRe.out]
                  exact ⟨⟨0, rfl, fun v q e => by cases e⟩, ⟨by decide, _, hS5⟩, (hFX.drewN _).trans hF5⟩
              | false =>
                have hRe : Hid (R = .ok (NN) j) := by rw [Hid, hRV2.out, if_neg (by intro h; rw [hfr] at h; cases h.2)]
                have hn3 : byteAt T j ≠ 46 ∧ byteAt T j ≠ 101 ∧ byteAt T j ≠ 69 := by
                  refine ⟨?_, ?_, ?_⟩ <;> (intro h; rw [h] at hfr; revert hfr; decide)
                have c1 := byte_ne hn3.1
                have c2 := byte_ne hn3.2.1
                have c3 := byte_ne hn3.2.2
                replace c1 : (((byteAt T j).toNat : Int) == 46) = false := c1
                replace c2 : (((byteAt T j).toNat : Int) == 101) = false := c2
                replace c3 : (((byteAt T j).toNat : Int) == 69) = false := c3
                clear hfr hRV2 hn3
                go_upto_region 23 with fail
                go_big_quiet (fail)
                go_wp2_with fail
                go_ret
                rw [hRe.out]
                exact ⟨⟨_, rfl, fun v q e => by first | exact (Res.ok.inj e).1 | exact hcv.trans (Res.ok.inj e).1⟩, hRX, hFX.drewN _⟩
        | true =>
          have hd48 := (dig_iff _).1 hdj2
          have d1 : ¬ ((byteAt T j).toNat : Int) < 48 := by omega
          have d2 : ¬ 57 < ((byteAt T j).toNat : Int) := by omega
          replace hdj2 := hid_e hdj2
          go_upto_region 12 with fail
          have p1 : decide (48 ≤ ((byteAt T j).toNat : Int)) = true := by rw [decide_eq_true_eq]; omega
          have p2 : 48 ≤ ((byteAt T j).toNat : Int) := by omega
          have p3 : 48 ≤ (byteAt T j).toNat := by omega
          have p4 : decide (((byteAt T j).toNat : Int) ≤ 57) = true := by rw [decide_eq_true_eq]; omega
          have p5 : ((byteAt T j).toNat : Int) ≤ 57 := by omega
          have p6 : (byteAt T j).toNat ≤ 57 := by omega
          go_big_quiet (fail)
          clear y0 y1 y2 y3
          have hRX : RT (wr.drewN nq) r T (j : Int) 0 0 := hA.out
          have hFX := hF.out.drewN nq
          generalize wr.drewN nq = X at hRX hFX ⊢
          clear hA hF hA' d1 d2
          obtain ⟨y0, y1, y2, y3, yf⟩ := hRX.cells
          have yf1 := yf 1
          clear yf
          go_upto_region 13 with fail
          go_big_quiet (fail)
          clear p1 p3 p4 p6 heb i1 j0
          obtain ⟨D, hD⟩ : ∃ z : Int, Hid (((byteAt T j).toNat : Int) - 48 = z) := ⟨_, hid_e rfl⟩
          rw [hD.out]
          have hD0 : 0 ≤ D := by have := hD.out; omega
          have hD9 : D ≤ 9 := by have := hD.out; omega
          have hj9 : (j : Int) ≤ 70000 := by omega
          have hR1 : RT ((X.drewN nq).setCell ⟨r, 1, none⟩ (.int .i64 ((j : Int) + 1))) r T ((j : Int) + 1) 0 0 := RT.set1 (w := X.drewN nq) hRX ((j : Int) + 1)
          have hF1 : FrP (· = r) w ((X.drewN nq).setCell ⟨r, 1, none⟩ (.int .i64 ((j : Int) + 1))) := (hFX.drewN nq).set _ _ (.inl rfl)
          replace hR1 := hid_e hR1
          replace hF1 := hid_e hF1
          replace hRX := hid_e hRX
          replace hFX := hid_e hFX
          have hV : Hid (dv 0 (bytesOf T kk (j + 1)) = dv 0 (bytesOf T kk j) * 10 + ((byteAt T j).toNat - 48)) := by rw [Hid, bytes_snoc hj1 hjs, dv_snoc]
          have hdj' : Hid (∀ i, kk ≤ i → i < j + 1 → digit (byteAt T i) = true) := hid_e (fun i a b => (Nat.lt_or_ge i j).elim (fun c => hdj.out i a c) (fun c => by obtain rfl : i = j := (by omega); exact hdj2.out))
          clear p2 p5
          by_cases hgt : (9223372036854775808 - D) / 10 < (N : Int)
          · have hN0 : ¬ N = 0 := by omega
            have hNS' : Hid (NumSo true N (dv 0 (bytesOf T kk (j + 1)))) := by
              rw [Hid, hV.out]
              have hDD := hD.out
              refine .inr ⟨rfl, ?_, by omega, ?_⟩ <;> (rcases hNS.out with ⟨-, a, b⟩ | ⟨-, a, b, c⟩ <;> omega)
            have hf' : Hid (kk < j + 1 → byteAt T kk ≠ 48 ∧ 1 ≤ N) := by
              intro _
              refine ⟨?_, by omega⟩
              rcases Nat.lt_or_ge kk j with h | h
              · exact (hfst.out h).1
              · exfalso
                obtain rfl : kk = j := by omega
                rcases hNS.out with ⟨-, a, -⟩ | ⟨-, a, -, -⟩
                · rw [bytes_none] at a
                  exact hN0 a
                · rw [bytes_none] at a
                  exact absurd a (by show ¬ (_ < 0); omega)
            go_wp2_with fail
            go_roundg g'
            case measure => omega
            case rel => exact ⟨j + 1, N, true, by omega, by omega, by omega, rfl, rfl, hdj', hNS', hf', hid_e hR1.out, hid_e hF1.out⟩
          cases wd with
          | true =>
            have hN0 : ¬ N = 0 := by
              rcases hNS.out with ⟨a, -⟩ | ⟨-, -, b, -⟩
              · cases a
              · omega
            have hNS' : Hid (NumSo true N (dv 0 (bytesOf T kk (j + 1)))) := by
              rw [Hid, hV.out]
              refine .inr ⟨rfl, ?_, by omega, ?_⟩ <;> (rcases hNS.out with ⟨a, -⟩ | ⟨-, a, b, c⟩ <;> first | omega | cases a)
            have hf' : Hid (kk < j + 1 → byteAt T kk ≠ 48 ∧ 1 ≤ N) := by
              intro _
              refine ⟨?_, by omega⟩
              rcases Nat.lt_or_ge kk j with h | h
              · exact (hfst.out h).1
              · exfalso
                obtain rfl : kk = j := by omega
                rcases hNS.out with ⟨a, -⟩ | ⟨-, a, -, -⟩
                · cases a
                · rw [bytes_none] at a
                  exact absurd a (by show ¬ (_ < 0); omega)
            go_wp2_with fail
            go_roundg g'
            case measure => omega
            case rel => exact ⟨j + 1, N, true, by omega, by omega, by omega, rfl, rfl, hdj', hNS', hf', hid_e hR1.out, hid_e hF1.out⟩
          | false =>
            obtain ⟨hNV, hN63b⟩ : N = dv 0 (bytesOf T kk j) ∧ N ≤ 9223372036854775808 := by
              rcases hNS.out with ⟨-, a, b⟩ | ⟨a, -⟩
              · exact ⟨a, by omega⟩
              · cases a
            by_cases hz : kk = j ∧ byteAt T j = 48
            · obtain ⟨e, h48⟩ := hz
              subst e
              have hN00 : N = 0 := by rw [hNV, bytes_none]; rfl
              have hD00 : D = 0 := by rw [← hD.out, h48]; rfl
              have hc48 : c = 48 := by rw [← hc.out, h48]; rfl
              have hRV2 : Hid (R = if kk + 1 < T.size ∧ frac (byteAt T (kk + 1)) = true then .bad 14 (kk + 1) else .ok 0 (kk + 1)) := by
                rw [Hid, ← hR.out, num_at (m := kk + 1) (mi := false) (by omega) (by omega) hdj'.out (.inl ⟨h48, rfl⟩) (.inr ⟨rfl, hkk0.out.symm⟩), hV.out, ← hNV, hN00, h48]
                show numZ T n (kk + 1) false 0 = _
                unfold numZ
                rw [if_neg (by simp)]
                rfl
              clear hNV hNS hfst hdj hdj' hV hdj2 hgt hd48 hk48 hN63b h48 hD0 hD9 hRX hFX c1 c2
              subst hN00 hD00 hc48
              go_upto_region 20 with fail
              clear y0 y1 y2 y3 yf1
              have hRX : RT ((X.drewN nq).setCell ⟨r, 1, none⟩ (.int .i64 ((kk : Int) + 1))) r T ((kk + 1 : Nat) : Int) 0 0 := hR1.out
              have hFX := hF1.out
              clear hR1 hF1
              generalize (X.drewN nq).setCell ⟨r, 1, none⟩ (.int .i64 ((kk : Int) + 1)) = X at hRX hFX ⊢
              obtain ⟨m2, hm2⟩ : ∃ m, Hid (kk + 1 = m) := ⟨_, hid_e rfl⟩
              rw [hm2.out] at hRX hRV2
              obtain ⟨y0, y1, y2, y3, -⟩ := hRX.cells
              by_cases hs2 : m2 < T.size
              · have i1 : (m2 : Int) < (T.size : Int) := by omega
                have i2 : (0 : Int) ≤ (m2 : Int) := by omega
                have heb := byteAt_eq hs2
                cases hfr : frac (byteAt T m2) with
                | true =>
                  have hRe : Hid (R = .bad 14 m2) := by rw [Hid, hRV2.out, if_pos ⟨hs2, hfr⟩]
                  have hfl := fun q0 : Nat => hid_e (fail_code r T (m2 : Int) (m2 : Int) 14 (X.drewN q0) hRX)
                  have hcs : ((((byteAt T m2).toNat : Int) == 46) = true) ∨ ((((byteAt T m2).toNat : Int) == 46) = false ∧ (((byteAt T m2).toNat : Int) == 101) = true) ∨ ((((byteAt T m2).toNat : Int) == 46) = false ∧ (((byteAt T m2).toNat : Int) == 101) = false ∧ (((byteAt T m2).toNat : Int) == 69) = true) := by
                    rcases (frac_iff _).1 hfr with h | h | h <;> rw [h] <;> decide
                  clear hfr hRV2
                  rcases hcs with c1 | ⟨c1, c2⟩ | ⟨c1, c2, c3⟩
                  all_goals
                    go_upto_region 23 with fail
                    go_big_quiet (fail)
                    go_wp2_with fail
                    go_fit (hfl _).out
                    rintro e w5 ⟨rfl, hS5, hF5⟩
                    go_wp2_with fail
                    go_ret
                    rw [hRe.out]
                    exact ⟨⟨0, rfl, fun v q e => by cases e⟩, ⟨by decide, _, hS5⟩, (hFX.drewN _).trans hF5⟩
                | false =>
                  have hRe : Hid (R = .ok (0) m2) := by rw [Hid, hRV2.out, if_neg (by intro h; rw [hfr] at h; cases h.2)]
                  have hn3 : byteAt T m2 ≠ 46 ∧ byteAt T m2 ≠ 101 ∧ byteAt T m2 ≠ 69 := by
                    refine ⟨?_, ?_, ?_⟩ <;> (intro h; rw [h] at hfr; revert hfr; decide)
                  have c1 := byte_ne hn3.1
                  have c2 := byte_ne hn3.2.1
                  have c3 := byte_ne hn3.2.2
                  replace c1 : (((byteAt T m2).toNat : Int) == 46) = false := c1
                  replace c2 : (((byteAt T m2).toNat : Int) == 101) = false := c2
                  replace c3 : (((byteAt T m2).toNat : Int) == 69) = false := c3
                  clear hfr hRV2 hn3
                  go_upto_region 23 with fail
                  go_big_quiet (fail)
                  go_wp2_with fail
                  go_ret
                  rw [hRe.out]
                  exact ⟨⟨_, rfl, fun v q e => by first | exact (Res.ok.inj e).1 | exact hcv.trans (Res.ok.inj e).1⟩, hRX, hFX.drewN _⟩
              · have i1 : ¬ (m2 : Int) < (T.size : Int) := by omega
                have hRe : Hid (R = .ok (0) m2) := by rw [Hid, hRV2.out, if_neg (by intro h; exact hs2 h.1)]
                go_upto_region 23 with fail
                go_big_quiet (fail)
                go_wp2_with fail
                go_ret
                rw [hRe.out]
                exact ⟨⟨_, rfl, fun v q e => by first | exact (Res.ok.inj e).1 | exact hcv.trans (Res.ok.inj e).1⟩, hRX, hFX.drewN _⟩
            · have hN1 : 1 ≤ 10 * N + ((byteAt T j).toNat - 48) := by
                rcases Nat.lt_or_ge kk j with h | h
                · have := (hfst.out h).2
                  omega
                · have e : kk = j := by omega
                  have h48 : (byteAt T j).toNat ≠ 48 := fun h => hz ⟨e, UInt8.toNat_inj.1 h⟩
                  omega
              have hN0 : ¬ 10 * (N : Int) + D = 0 := by have := hD.out; omega
              have hNS' : Hid (NumSo false (10 * N + ((byteAt T j).toNat - 48)) (dv 0 (bytesOf T kk (j + 1)))) := by
                rw [Hid, hV.out, ← hNV]
                have := hD.out
                refine .inl ⟨rfl, by omega, by omega⟩
              have hf' : Hid (kk < j + 1 → byteAt T kk ≠ 48 ∧ 1 ≤ 10 * N + ((byteAt T j).toNat - 48)) := by
                intro _
                refine ⟨?_, hN1⟩
                rcases Nat.lt_or_ge kk j with h | h
                · exact (hfst.out h).1
                · obtain rfl : kk = j := by omega
                  exact fun h => hz ⟨rfl, h⟩
              have heN : Hid (10 * (N : Int) + D = ((10 * N + ((byteAt T j).toNat - 48) : Nat) : Int)) := by
                rw [Hid]
                have := hD.out
                omega
              clear hNV hz hN1
              go_wp2_with fail
              go_roundg g'
              case measure => omega
              case rel => exact ⟨j + 1, _, false, by omega, by omega, by omega, congrArg (Value.int .u64) heN.out, rfl, hdj', hNS', hf', hid_e hR1.out, hid_e hF1.out⟩
end Go.Proofs.YtnccaidlcaeeaaaGreatDoor.Tree
/-! The document's reader of texts: commas, brackets with nothing between. -/
namespace Go.Proofs.YtnccaidlcaeeaaaGreatDoor.Tree
open Go Go.RowKit

theorem skipTo_in (T : ByteArray) : (f n : Nat) → n ≤ T.size → n ≤ skipTo T f n ∧ skipTo T f n ≤ T.size
  | 0, n, h => ⟨Nat.le_refl _, h⟩
  | f + 1, n, h => by
    unfold skipTo
    split
    · rename_i hc
      have := skipTo_in T f (n + 1) hc.1
      omega
    · exact ⟨Nat.le_refl _, h⟩
theorem skip_le {T : ByteArray} {n : Nat} (h : n ≤ T.size) : skip T n ≤ T.size := (skipTo_in T _ n h).2
theorem le_skip {T : ByteArray} {n : Nat} (h : n ≤ T.size) : n ≤ skip T n := (skipTo_in T _ n h).1
def commaB (T : ByteArray) (q : Nat) : Bool := decide (skip T q < T.size) && byteAt T (skip T q) == 44
def commaR (T : ByteArray) (c : UInt8) (q : Nat) : Res Unit :=
  if skip T q < T.size then
    if byteAt T (skip T q) = 44 ∨ byteAt T (skip T q) = c then .ok () (skip T (skip T q + 1)) else .bad 10 (skip T q)
  else .bad 3 T.size
def emptyB (T : ByteArray) (c : UInt8) (n : Nat) : Bool := !decide (skip T (n + 1) < T.size) || byteAt T (skip T (n + 1)) == c
def emptyR (T : ByteArray) (c : UInt8) (n : Nat) : Res Unit :=
  if skip T (n + 1) < T.size then
    if byteAt T (skip T (n + 1)) = c then .ok () (skip T (n + 1) + 1) else .ok () (skip T (n + 1))
  else .bad 3 T.size
set_option maxHeartbeats 2000000 in
theorem comma_dead (r : Nat) (T : ByteArray) (c : UInt8) (q pl e : Int) (w : World) (h : RT w r T q e pl) (he : e ≠ 0) :
    Calls Tryz.prog 57 #[.pointer (some ⟨r, 0, none⟩), .int .u8 (c.toNat : Int)] w fun x w' => x = .returned (.bool false) ∧ RT w' r T q e pl ∧ FrP (· = r) w w' := by
  have hbl := hid_e (blanks_dead r T q pl e w h he)
  go_enter Tryz.func57, Tryz.ntmps57
  go_wp2_with fail
  go_fit hbl.out
  clear hbl
  rintro e1 w1 ⟨rfl, hS1, hF1⟩
  have hn := hid_e (next_dead r T q pl e w1 hS1 he)
  go_wp2_with fail
  go_fit hn.out
  clear hn
  rintro e1 w2 ⟨rfl, rfl⟩
  go_wp2_with fail
  go_ret
  exact ⟨rfl, hS1, hF1⟩
set_option maxHeartbeats 4000000 in
theorem comma_code (r : Nat) (T : ByteArray) (c : UInt8) (q : Nat) (w : World) (hT : T.size ≤ 65536) (h : Hid (RT w r T (q : Int) 0 0)) (hq : q ≤ T.size) :
    Calls Tryz.prog 57 #[.pointer (some ⟨r, 0, none⟩), .int .u8 (c.toNat : Int)] w fun x w' => x = .returned (.bool (commaB T q)) ∧ RSt w' r T (commaR T c q) ∧ FrP (· = r) w w' := by
  obtain ⟨B, hB⟩ : ∃ B, Hid (commaB T q = B) := ⟨_, hid_e rfl⟩
  obtain ⟨R, hR⟩ : ∃ R, Hid (commaR T c q = R) := ⟨_, hid_e rfl⟩
  rw [hB.out, hR.out]
  have hbl := hid_e (blanks_code r T q w hT h.out hq)
  obtain ⟨s, hs⟩ : ∃ s, Hid (skip T q = s) := ⟨_, hid_e rfl⟩
  have hs1 : s ≤ T.size := by rw [← hs.out]; exact skip_le hq
  rw [hs.out] at hbl
  obtain ⟨cz, hcz⟩ : ∃ z : Int, Hid ((c.toNat : Int) = z) := ⟨_, hid_e rfl⟩
  rw [hcz.out]
  go_enter Tryz.func57, Tryz.ntmps57
  go_wp2_with fail
  go_fit hbl.out
  clear hbl h
  rintro e1 w1 ⟨rfl, hS1, hF1⟩
  by_cases hlt : s < T.size
  rotate_left
  · have e1 : s = T.size := by omega
    have hRe : Hid (R = .bad 3 T.size) := by rw [Hid, ← hR.out]; unfold commaR; rw [hs.out, if_neg hlt]
    have hBe : Hid (B = false) := by rw [Hid, ← hB.out]; unfold commaB; rw [hs.out, decide_eq_false hlt]; rfl
    have hn := hid_e (next_short r T w1 (by rw [← e1]; exact hS1))
    replace e1 := hid_e e1
    go_wp2_with fail
    go_fit hn.out
    clear hn
    rintro e1 w2 ⟨rfl, hS2, hF2⟩
    go_wp2_with fail
    go_ret
    rw [hRe.out, hBe.out]
    exact ⟨rfl, ⟨by decide, _, hS2⟩, hF1.trans hF2⟩
  have hn := hid_e (next_byte r T s w1 hS1 hlt)
  go_wp2_with fail
  go_fit hn.out
  clear hn
  rintro e1 w2 ⟨rfl, hS2, hF2⟩
  have hF12 := hF1.trans hF2
  clear hF1 hF2 hS1
  obtain ⟨z, hz⟩ : ∃ z : Int, Hid (((byteAt T s).toNat : Int) = z) := ⟨_, hid_e rfl⟩
  rw [hz.out]
  obtain ⟨y0, y1, y2, y3, yf⟩ := hS2.cells
  have yf1 := yf 1
  clear yf
  have hs9 : (s : Int) ≤ 70000 := by omega
  have hs0 : (0 : Int) ≤ (s : Int) := by omega
  by_cases hok : byteAt T s = 44 ∨ byteAt T s = c
  · have hRe : Hid (R = .ok () (skip T (s + 1))) := by rw [Hid, ← hR.out]; unfold commaR; rw [hs.out, if_pos hlt, if_pos hok]
    have hW : RT (w2.setCell ⟨r, 1, none⟩ (.int .i64 ((s : Int) + 1))) r T ((s + 1 : Nat) : Int) 0 0 := hS2.set1 ((s : Int) + 1)
    have hFW : FrP (· = r) w (w2.setCell ⟨r, 1, none⟩ (.int .i64 ((s : Int) + 1))) := hF12.set _ _ (.inl rfl)
    have hb2 := hid_e (blanks_code r T (s + 1) _ hT hW (by omega))
    have hcs : ((z == 44) = true ∧ (z != 44) = false ∧ B = true) ∨ ((z == 44) = false ∧ (z != 44) = true ∧ (z != cz) = false ∧ B = false) := by
      by_cases h44 : byteAt T s = 44
      · refine .inl ?_
        rw [← hz.out, h44, ← hB.out]
        unfold commaB
        rw [hs.out, h44, decide_eq_true hlt]
        decide
      · have hc := hok.resolve_left h44
        have h1 := byte_ne h44
        refine .inr ⟨?_, ?_, ?_, ?_⟩
        · rw [← hz.out]; exact h1
        · rw [← hz.out, bne, show (((byteAt T s).toNat : Int) == 44) = false from h1]; rfl
        · rw [← hz.out, ← hcz.out, hc]; simp
        · rw [← hB.out]
          unfold commaB
          rw [hs.out, decide_eq_true hlt]
          simpa using h44
    clear hok
    rcases hcs with ⟨c1, c2, rfl⟩ | ⟨c1, c2, c3, rfl⟩
    all_goals
      go_wp2_with fail
      go_fit hb2.out
      rintro e1 w3 ⟨rfl, hS3, hF3⟩
      go_wp2_with fail
      go_ret
      rw [hRe.out]
      exact ⟨rfl, hS3, hFW.trans hF3⟩
  · have hRe : Hid (R = .bad 10 s) := by rw [Hid, ← hR.out]; unfold commaR; rw [hs.out, if_pos hlt, if_neg hok]
    have h44 : byteAt T s ≠ 44 := fun h => hok (.inl h)
    have hc : byteAt T s ≠ c := fun h => hok (.inr h)
    have hBe : Hid (B = false) := by
      rw [Hid, ← hB.out]
      unfold commaB
      rw [hs.out, decide_eq_true hlt]
      simpa using h44
    have c1 := byte_ne h44
    have c2 := byte_ne hc
    rw [hz.out] at c1 c2
    rw [hcz.out] at c2
    have c3 : (z != 44) = true := by rw [bne, show (z == 44) = false from c1]; rfl
    have c4 : (z != cz) = true := by rw [bne, c2]; rfl
    clear c1 c2 hok h44 hc
    have hfl := hid_e (fail_code r T (s : Int) (s : Int) 10 w2 hS2)
    go_wp2_with fail
    go_fit hfl.out
    rintro e1 w3 ⟨rfl, hS3, hF3⟩
    go_wp2_with fail
    go_ret
    rw [hRe.out, hBe.out]
    exact ⟨rfl, ⟨by decide, _, hS3⟩, hF12.trans hF3⟩
set_option maxHeartbeats 4000000 in
theorem empty_code (r : Nat) (T : ByteArray) (c : UInt8) (n : Nat) (w : World) (hT : T.size ≤ 65536) (h : Hid (RT w r T (n : Int) 0 0)) (hn : n < T.size) :
    Calls Tryz.prog 56 #[.pointer (some ⟨r, 0, none⟩), .int .u8 (c.toNat : Int)] w fun x w' => x = .returned (.bool (emptyB T c n)) ∧ RSt w' r T (emptyR T c n) ∧ FrP (· = r) w w' := by
  obtain ⟨B, hB⟩ : ∃ B, Hid (emptyB T c n = B) := ⟨_, hid_e rfl⟩
  obtain ⟨R, hR⟩ : ∃ R, Hid (emptyR T c n = R) := ⟨_, hid_e rfl⟩
  rw [hB.out, hR.out]
  have hn9 : (n : Int) ≤ 70000 := by omega
  have hn0 : (0 : Int) ≤ (n : Int) := by omega
  have hW : RT (w.setCell ⟨r, 1, none⟩ (.int .i64 ((n : Int) + 1))) r T ((n + 1 : Nat) : Int) 0 0 := h.out.set1 ((n : Int) + 1)
  have hFW : FrP (· = r) w (w.setCell ⟨r, 1, none⟩ (.int .i64 ((n : Int) + 1))) := (FrP.refl (· = r) w).set _ _ (.inl rfl)
  have hbl := hid_e (blanks_code r T (n + 1) _ hT hW (by omega))
  obtain ⟨y0, y1, y2, y3, yf⟩ := h.out.cells
  have yf1 := yf 1
  clear yf
  obtain ⟨s, hs⟩ : ∃ s, Hid (skip T (n + 1) = s) := ⟨_, hid_e rfl⟩
  have hs1 : s ≤ T.size := by rw [← hs.out]; exact skip_le (by omega)
  rw [hs.out] at hbl
  obtain ⟨cz, hcz⟩ : ∃ z : Int, Hid ((c.toNat : Int) = z) := ⟨_, hid_e rfl⟩
  rw [hcz.out]
  go_enter Tryz.func56, Tryz.ntmps56
  go_wp2_with fail
  go_fit hbl.out
  clear hbl h hW y0 y1 y2 y3 yf1
  rintro e1 w1 ⟨rfl, hS1, hF1⟩
  replace hF1 := hFW.trans hF1
  clear hFW
  by_cases hlt : s < T.size
  rotate_left
  · have e1 : s = T.size := by omega
    have hRe : Hid (R = .bad 3 T.size) := by rw [Hid, ← hR.out]; unfold emptyR; rw [hs.out, if_neg hlt]
    have hBe : Hid (B = true) := by rw [Hid, ← hB.out]; unfold emptyB; rw [hs.out, decide_eq_false hlt]; rfl
    have hn := hid_e (next_short r T w1 (by rw [← e1]; exact hS1))
    replace e1 := hid_e e1
    go_wp2_with fail
    go_fit hn.out
    clear hn
    rintro e1 w2 ⟨rfl, hS2, hF2⟩
    go_wp2_with fail
    go_ret
    rw [hRe.out, hBe.out]
    exact ⟨rfl, ⟨by decide, _, hS2⟩, hF1.trans hF2⟩
  have hn := hid_e (next_byte r T s w1 hS1 hlt)
  go_wp2_with fail
  go_fit hn.out
  clear hn
  rintro e1 w2 ⟨rfl, hS2, hF2⟩
  have hF12 := hF1.trans hF2
  clear hF1 hF2 hS1
  obtain ⟨z, hz⟩ : ∃ z : Int, Hid (((byteAt T s).toNat : Int) = z) := ⟨_, hid_e rfl⟩
  rw [hz.out]
  obtain ⟨y0, y1, y2, y3, yf⟩ := hS2.cells
  have yf1 := yf 1
  clear yf
  have hs9 : (s : Int) ≤ 70000 := by omega
  have hs0 : (0 : Int) ≤ (s : Int) := by omega
  by_cases hok : byteAt T s = c
  · have hRe : Hid (R = .ok () (s + 1)) := by rw [Hid, ← hR.out]; unfold emptyR; rw [hs.out, if_pos hlt, if_pos hok]
    have hBe : Hid (B = true) := by rw [Hid, ← hB.out]; unfold emptyB; rw [hs.out, decide_eq_true hlt, hok]; simp
    have hW : RT (w2.setCell ⟨r, 1, none⟩ (.int .i64 ((s : Int) + 1))) r T ((s + 1 : Nat) : Int) 0 0 := hS2.set1 ((s : Int) + 1)
    have hFW : FrP (· = r) w (w2.setCell ⟨r, 1, none⟩ (.int .i64 ((s : Int) + 1))) := hF12.set _ _ (.inl rfl)
    have c1 : (z == cz) = true := by rw [← hz.out, ← hcz.out, hok]; simp
    replace hW := hid_e hW
    replace hFW := hid_e hFW
    clear hok
    go_wp2_with fail
    go_ret
    rw [hRe.out, hBe.out]
    exact ⟨rfl, hW.out, hFW.out⟩
  · have hRe : Hid (R = .ok () s) := by rw [Hid, ← hR.out]; unfold emptyR; rw [hs.out, if_pos hlt, if_neg hok]
    have hBe : Hid (B = false) := by rw [Hid, ← hB.out]; unfold emptyB; rw [hs.out, decide_eq_true hlt]; simpa using hok
    have c1 := byte_ne hok
    rw [hz.out, hcz.out] at c1
    clear hok
    go_wp2_with fail
    go_ret
    rw [hRe.out, hBe.out]
    exact ⟨rfl, hS2, hF12⟩
end Go.Proofs.YtnccaidlcaeeaaaGreatDoor.Tree
