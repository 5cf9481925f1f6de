import Derived.Test.YtnccaidlcaeeaaaGreatDoorW14
namespace Go.Proofs.YtnccaidlcaeeaaaGreatDoor
open Go Go.RowKit Go.Maps

theorem hid' {p : Prop} (h : p) : Hid p := h
def hexV (c : UInt8) : Option Nat :=
  if 48 ≤ c.toNat ∧ c.toNat ≤ 57 then some (c.toNat - 48)
  else if 97 ≤ c.toNat ∧ c.toNat ≤ 102 then some (c.toNat - 87)
  else if 65 ≤ c.toNat ∧ c.toNat ≤ 70 then some (c.toNat - 55)
  else none
def unescN (c : Nat) : Option Nat :=
  if c = 34 then some 34 else if c = 92 then some 92 else if c = 47 then some 47
  else if c = 98 then some 8 else if c = 102 then some 12 else if c = 110 then some 10 else if c = 114 then some 13 else if c = 116 then some 9 else none
def optV : Option Nat → Value
  | some d => .tuple #[.int .i32 (d : Int), .bool true]
  | none => .tuple #[.int .i32 0, .bool false]
theorem ret_opt {a : Int} {o : Option Nat} {d : Nat} (h : o = some d) (ha : a = (d : Int)) : Ending.returned (.tuple #[.int .i32 a, .bool true]) = .returned (optV o) := by subst h ha; rfl
theorem ret_no {o : Option Nat} (h : o = none) : Ending.returned (.tuple #[.int .i32 0, .bool false]) = .returned (optV o) := by subst h; rfl

theorem hexDigit_any (c : UInt8) (w : World) : Calls Tryz.prog 129 #[.int .u8 (c.toNat : Int)] w fun e w' => e = .returned (optV (hexV c)) ∧ w' = w := by
  have hlt := UInt8.toNat_lt c
  by_cases h1 : 48 ≤ c.toNat ∧ c.toNat ≤ 57
  · have hd : digit c = true := by rw [digit_int]; simp; omega
    have i1 : (48 : Int) ≤ (c.toNat : Int) := by omega
    have i2 : (c.toNat : Int) ≤ 57 := by omega
    have HV : Hid (hexV c = some (c.toNat - 48)) := by unfold Hid hexV; rw [if_pos h1]
    go_enter Tryz.func129, Tryz.ntmps129
    go_wp2_with (go_at_call 62; refine (isDigit_any c _).mono ?_; rw [hd]; rintro e w' ⟨rfl, rfl⟩)
    go_ret2
    exact ⟨ret_opt HV.out (by omega), rfl⟩
  · have hd : digit c = false := by rw [digit_int]; simp; omega
    by_cases h2 : 97 ≤ c.toNat ∧ c.toNat ≤ 102
    · have i1 : (97 : Int) ≤ (c.toNat : Int) := by omega
      have i2 : (c.toNat : Int) ≤ 102 := by omega
      have HV : Hid (hexV c = some (c.toNat - 87)) := by unfold Hid hexV; rw [if_neg h1, if_pos h2]
      go_enter Tryz.func129, Tryz.ntmps129
      go_wp2_with (go_at_call 62; refine (isDigit_any c _).mono ?_; rw [hd]; rintro e w' ⟨rfl, rfl⟩)
      go_ret2
      exact ⟨ret_opt HV.out (by omega), rfl⟩
    · by_cases h3 : 65 ≤ c.toNat ∧ c.toNat ≤ 70
      · have i1 : (65 : Int) ≤ (c.toNat : Int) := by omega
        have i2 : (c.toNat : Int) ≤ 70 := by omega
        have i3 : ¬ (97 : Int) ≤ (c.toNat : Int) := by omega
        have HV : Hid (hexV c = some (c.toNat - 55)) := by unfold Hid hexV; rw [if_neg h1, if_neg h2, if_pos h3]
        go_enter Tryz.func129, Tryz.ntmps129
        go_wp2_with (go_at_call 62; refine (isDigit_any c _).mono ?_; rw [hd]; rintro e w' ⟨rfl, rfl⟩)
        go_ret2
        exact ⟨ret_opt HV.out (by omega), rfl⟩
      · have HV : Hid (hexV c = none) := by unfold Hid hexV; rw [if_neg h1, if_neg h2, if_neg h3]
        have H2 : Hid (¬ (97 ≤ c.toNat ∧ c.toNat ≤ 102)) := h2
        have H3 : Hid (¬ (65 ≤ c.toNat ∧ c.toNat ≤ 70)) := h3
        clear h1 h2 h3
        go_enter Tryz.func129, Tryz.ntmps129
        go_wp2_with (go_at_call 62; refine (isDigit_any c _).mono ?_; rw [hd]; rintro e w' ⟨rfl, rfl⟩)
        all_goals first
          | (go_ret2; exact ⟨ret_no HV.out, rfl⟩)
          | (exfalso; have := H2.out; have := H3.out; simp at *; omega)
theorem unesc_any (c : UInt8) (w : World) : Calls Tryz.prog 105 #[.int .u8 (c.toNat : Int)] w fun e w' => e = .returned (optV (unescN c.toNat)) ∧ w' = w := by
  have i0 : (0 : Int) ≤ (c.toNat : Int) := by omega
  have i1 : (c.toNat : Int) ≤ 255 := by have := UInt8.toNat_lt c; omega
  go_enter Tryz.func105, Tryz.ntmps105
  go_wp2_with fail
  all_goals go_ret2
  all_goals refine ⟨?_, rfl⟩
  all_goals generalize c.toNat = n at *
  all_goals simp only [beq_iff_eq, beq_eq_false_iff_ne, ne_eq] at *
  all_goals first
    | exact ret_no (by unfold unescN; repeat rw [if_neg (by omega)])
    | (refine ret_opt (d := 34) ?_ (by omega); unfold unescN; rw [if_pos (by omega)]; done)
    | (refine ret_opt (d := 92) ?_ (by omega); unfold unescN; rw [if_neg (by omega), if_pos (by omega)]; done)
    | (refine ret_opt (d := 47) ?_ (by omega); unfold unescN; iterate 2 rw [if_neg (by omega)]
       rw [if_pos (by omega)]; done)
    | (refine ret_opt (d := 8) ?_ rfl; unfold unescN; iterate 3 rw [if_neg (by omega)]
       rw [if_pos (by omega)]; done)
    | (refine ret_opt (d := 12) ?_ rfl; unfold unescN; iterate 4 rw [if_neg (by omega)]
       rw [if_pos (by omega)]; done)
    | (refine ret_opt (d := 10) ?_ rfl; unfold unescN; iterate 5 rw [if_neg (by omega)]
       rw [if_pos (by omega)]; done)
    | (refine ret_opt (d := 13) ?_ rfl; unfold unescN; iterate 6 rw [if_neg (by omega)]
       rw [if_pos (by omega)]; done)
    | (refine ret_opt (d := 9) ?_ rfl; unfold unescN; iterate 7 rw [if_neg (by omega)]
       rw [if_pos (by omega)]; done)

theorem or16 (X d : Nat) (hX : X < 4096) (hd : d < 16) : bits .or .i32 ((X : Int) * 16) (d : Int) = (((16 * X + d : Nat)) : Int) := by
  have e1 : ((X : Int) * 16) = ((16 * X : Nat) : Int) := by omega
  have h1 : (BitVec.ofInt 32 ((16 * X : Nat) : Int)).toNat = 16 * X := by
    rw [BitVec.ofInt_natCast, BitVec.toNat_ofNat]; exact Nat.mod_eq_of_lt (by omega)
  have h2 : (BitVec.ofInt 32 (d : Int)).toNat = d := by
    rw [BitVec.ofInt_natCast, BitVec.toNat_ofNat]; exact Nat.mod_eq_of_lt (by omega)
  have h3 : 16 * X ||| d = 16 * X + d := by
    have h := Nat.two_pow_add_eq_or_of_lt (i := 4) (b := d) (by omega) X
    rw [show (2 : Nat) ^ 4 = 16 from rfl] at h
    omega
  rw [e1]
  show IntKind.i32.wrap ((BitVec.ofInt 32 ((16 * X : Nat) : Int) ||| BitVec.ofInt 32 (d : Int)).toNat : Int) = _
  rw [BitVec.toNat_or, h1, h2, h3]
  rw [IntKind.wrap_i32]; omega
def hexR (T : ByteArray) : Nat → Nat → Nat → Res Nat
  | 0, x, n => .ok x n
  | k + 1, x, n => if n < T.size then (match hexV (byteAt T n) with | some d => hexR T k (16 * x + d) (n + 1) | none => .bad 12 n) else .bad 3 T.size
theorem hexV_lt {c : UInt8} {d : Nat} (h : hexV c = some d) : d < 16 := by
  unfold hexV at h
  repeat' split at h
  all_goals first | (simp at h; omega) | cases h
def RPost (b : Nat) (T : ByteArray) (n k : Nat) (w : World) (e : Ending) (w' : World) : Res Nat → Prop
  | .ok s n' => e = .returned (.int .i32 (s : Int)) ∧ At b T n' w' ∧ Kp b w w' ∧ n + k = n' ∧ n' ≤ T.size ∧ s < 65536
  | .bad er p => e = .panicked (faultC er p) ∧ Kp b w w'
set_option maxHeartbeats 1000000 in
theorem hex_any (b n : Nat) (T : ByteArray) (w : World) (hA : At b T n w) (hn : n ≤ T.size) (hT : T.size ≤ 65536) :
    Calls Tryz.prog 121 #[.pointer (some ⟨b, 0, none⟩)] w fun e w' => RPost b T n 4 w e w' (hexR T 4 0 n) := by
  go_enter Tryz.func121, Tryz.ntmps121
  go_wp2_with fail
  go_loopw [3, 6] (fun x i wr => ∃ q X : Nat, q ≤ 4 ∧ i = .int .i64 (q : Int) ∧ x = .int .i32 (X : Int) ∧ X < 16 ^ q ∧ n + q ≤ T.size ∧ At b T (n + q) wr ∧ Kp b w wr ∧ Hid (hexR T 4 0 n = hexR T (4 - q) X (n + q))) (fun _ i wr => 4 - (intOf i).toNat)
  case atStart => exact ⟨0, 0, by omega, rfl, rfl, by decide, hn, hA, Kp.refl _ _, rfl⟩
  case round =>
    obtain ⟨q, X, hq, rfl, rfl, hX, hnq, hAq, hK, HR⟩ := hrel
    have x0 := hAq.c0
    have x1 := hAq.c1
    have xf := hAq.fz 1
    by_cases h4 : q < 4
    · have hXm : X < 4096 := Nat.lt_of_lt_of_le hX (by have : 16 ^ q ≤ 16 ^ 3 := Nat.pow_le_pow_right (by decide) (by omega); exact this)
      obtain ⟨r, hr⟩ : ∃ r, 4 - q = r + 1 := ⟨3 - q, by omega⟩
      have HR1 : Hid (hexR T 4 0 n = hexR T (r + 1) X (n + q)) := by unfold Hid; rw [HR.out, hr]
      have i4 : (q : Int) < 4 := by omega
      by_cases hs : n + q < T.size
      · cases hv : hexV (byteAt T (n + q)) with
        | none =>
          have HRR : Hid (hexR T 4 0 n = .bad 12 (n + q)) := by unfold Hid; rw [HR1.out, hexR, if_pos hs, hv]
          go_wp2_with fail
          refine (here_ok b (n + q) T wr x0 x1 hs).mono ?_
          rintro e w1 ⟨rfl, rfl⟩
          go_wp2_with fail
          refine (hexDigit_any (byteAt T (n + q)) _).mono ?_
          rintro e w1 ⟨rfl, rfl⟩
          rw [hv]
          simp only [optV]
          go_wp2_with fail
          refine ⟨rfl, ?_⟩
          rw [HRR.out]
          exact ⟨rfl, hK.drew.drew⟩
        | some d =>
          have hd := hexV_lt hv
          have HRR : Hid (hexR T 4 0 n = hexR T r (16 * X + d) (n + q + 1)) := by unfold Hid; rw [HR1.out, hexR, if_pos hs, hv]
          have HO := hid' (or16 X d hXm hd)
          have HXX : Hid (16 * X + d < 16 ^ (q + 1)) := by unfold Hid; rw [Nat.pow_succ]; omega
          go_wp2_with fail
          refine (here_ok b (n + q) T wr x0 x1 hs).mono ?_
          rintro e w1 ⟨rfl, rfl⟩
          go_wp2_with fail
          refine (hexDigit_any (byteAt T (n + q)) _).mono ?_
          rintro e w1 ⟨rfl, rfl⟩
          rw [hv]
          simp only [optV]
          go_wp2_with fail
          go_roundw
          case rel =>
            refine ⟨q + 1, 16 * X + d, by omega, by go_num, congrArg (Value.int .i32) HO.out, HXX.out, by omega, ?_, ((hK.setCell _ _).drew).drew, ?_⟩
            · exact ((hAq.set _ (n + (q + 1)) (by omega)).drew).drew
            · unfold Hid; rw [HRR.out, show 4 - (q + 1) = r by omega]; rfl
          case measure => simp [intOf]; omega
      · have hse : n + q = T.size := by omega
        have HRR : Hid (hexR T 4 0 n = .bad 3 T.size) := by unfold Hid; rw [HR1.out, hexR, if_neg hs]
        rw [hse] at x1
        clear hse hs
        go_wp2_with fail
        refine (here_short b T wr x0 x1).mono ?_
        rintro e w1 ⟨rfl, rfl⟩
        go_wp2_with fail
        refine ⟨rfl, ?_⟩
        rw [HRR.out]
        exact ⟨rfl, hK.drew⟩
    · have hq4 : q = 4 := by omega
      subst hq4
      have HRR : Hid (hexR T 4 0 n = .ok X (n + 4)) := by unfold Hid; rw [HR.out]; rfl
      clear h4 hq HR
      go_wp2_with fail
      go_ret
      rw [HRR.out]
      exact ⟨rfl, hAq, hK, rfl, hnq, hX⟩

def pairV (h l : Nat) : Nat := 65536 + (h - 55296) * 1024 + (l - 56320)
def lowR (st h : Nat) : Res Nat → Res Nat
  | .bad e p => .bad e p
  | .ok l m => if l < 56320 ∨ 57344 ≤ l then .bad 13 st else .ok (pairV h l) m
def pairR (T : ByteArray) (st h m : Nat) : Res Nat :=
  if m < T.size then
    if byteAt T m = 92 then
      if m + 1 < T.size then
        if byteAt T (m + 1) = 117 then lowR st h (hexR T 4 0 (m + 2)) else .bad 13 st
      else .bad 3 T.size
    else .bad 13 st
  else .bad 3 T.size
def halfR (T : ByteArray) (st : Nat) : Res Nat → Res Nat
  | .bad e p => .bad e p
  | .ok h m => if h < 55296 ∨ 57344 ≤ h then .ok h m else if 56320 ≤ h then .bad 13 st else pairR T st h m
def codedR (T : ByteArray) (st n : Nat) : Res Nat := halfR T st (hexR T 4 0 n)
def CPost (b : Nat) (T : ByteArray) (n : Nat) (w : World) (e : Ending) (w' : World) : Res Nat → Prop
  | .ok s n' => e = .returned (.int .i32 (s : Int)) ∧ At b T n' w' ∧ Kp b w w' ∧ n + 4 ≤ n' ∧ n' ≤ T.size ∧ s ≤ 1114111
  | .bad er p => e = .panicked (faultC er p) ∧ Kp b w w'

set_option maxHeartbeats 1000000 in
theorem coded_any (b n st : Nat) (T : ByteArray) (w : World) (hA : At b T n w) (hn : n ≤ T.size) (hT : T.size ≤ 65536) : Calls Tryz.prog 104 #[.pointer (some ⟨b, 0, none⟩), .int .i64 st] w fun e w' => CPost b T n w e w' (codedR T st n) := by
  go_enter Tryz.func104, Tryz.ntmps104
  go_wp2_with fail
  refine (hex_any b n T w hA hn hT).mono ?_
  intro e w1 hp
  cases hh : hexR T 4 0 n with
  | bad er p =>
    rw [hh] at hp
    obtain ⟨rfl, hK1⟩ := hp
    have HR : Hid (codedR T st n = .bad er p) := by unfold Hid codedR; rw [hh]; rfl
    clear hh
    go_wp2_with fail
    refine ⟨rfl, ?_⟩
    rw [HR.out]
    exact ⟨rfl, hK1⟩
  | ok h m =>
    rw [hh] at hp
    obtain ⟨rfl, hA1, hK1, rfl, hm2, hm3⟩ := hp
    have HR0 : Hid (codedR T st n = halfR T st (.ok h (n + 4))) := by unfold Hid codedR; rw [hh]
    clear hh hA
    obtain ⟨hz, HZ⟩ : ∃ z : Int, Hid ((h : Int) = z) := ⟨_, rfl⟩
    rw [HZ.out]
    have x0 := hA1.c0
    have x1 := hA1.c1
    have xf := hA1.fz 1
    by_cases c1 : h < 55296
    · have d1 : hz < 55296 := by have := HZ.out; omega
      have HR : Hid (codedR T st n = .ok h (n + 4)) := by unfold Hid; rw [HR0.out, halfR, if_pos (Or.inl c1)]
      clear c1
      go_wp2_with fail
      go_ret
      rw [HR.out]
      exact ⟨congrArg (fun z => Ending.returned (Value.int .i32 z)) HZ.out.symm, hA1, hK1, by omega, hm2, by omega⟩
    · by_cases c2 : 57344 ≤ h
      · have d1 : ¬ (hz < 55296) := by have := HZ.out; omega
        have d2 : hz ≥ 57344 := by have := HZ.out; omega
        have HR : Hid (codedR T st n = .ok h (n + 4)) := by unfold Hid; rw [HR0.out, halfR, if_pos (Or.inr c2)]
        clear c1 c2
        go_wp2_with fail
        go_ret
        rw [HR.out]
        exact ⟨congrArg (fun z => Ending.returned (Value.int .i32 z)) HZ.out.symm, hA1, hK1, by omega, hm2, by omega⟩
      · have d1 : ¬ (hz < 55296) := by have := HZ.out; omega
        have d2 : ¬ hz ≥ 57344 := by have := HZ.out; omega
        by_cases c3 : 56320 ≤ h
        · have d3 : hz ≥ 56320 := by have := HZ.out; omega
          have HR : Hid (codedR T st n = .bad 13 st) := by unfold Hid; rw [HR0.out, halfR, if_neg (by omega), if_pos c3]
          clear c1 c2 c3
          go_wp2_with fail
          refine ⟨rfl, ?_⟩
          rw [HR.out]
          exact ⟨rfl, hK1⟩
        · have d3 : ¬ hz ≥ 56320 := by have := HZ.out; omega
          have HR1 : Hid (codedR T st n = pairR T st h (n + 4)) := by unfold Hid; rw [HR0.out, halfR, if_neg (by omega), if_neg c3]
          have HH : Hid (55296 ≤ h ∧ h < 56320) := by unfold Hid; omega
          clear c1 c2 c3
          have hbl := hA1.lt
          have hA2 : At b T (n + 4) (w1.alloc (.cells #[.int .u8 92, .int .u8 117] 5)) := hA1.alloc _
          have hK2 : Kp b w (w1.alloc (.cells #[.int .u8 92, .int .u8 117] 5)) := hK1.alloc _
          go_wp2_with fail
          refine wp_loop_rounds 3 ?_
          rw [rounds_succ]
          by_cases s1 : n + 4 < T.size
          · by_cases e1 : byteAt T (n + 4) = 92
            · have b1 : (((byteAt T (n + 4)).toNat : Int) == 92) = true := by rw [e1]; rfl
              have HR2 : Hid (codedR T st n = (if n + 4 + 1 < T.size then (if byteAt T (n + 4 + 1) = 117 then lowR st h (hexR T 4 0 (n + 4 + 2)) else .bad 13 st) else .bad 3 T.size)) := by unfold Hid; rw [HR1.out, pairR, if_pos s1, if_pos e1]
              clear e1
              go_wp2_with fail
              refine (here_ok b (n + 4) T _ hA2.c0 hA2.c1 s1).mono ?_
              rintro e w3 ⟨rfl, rfl⟩
              go_wp2_with fail
              rw [rounds_succ]
              have hA3 : At b T (n + 4 + 1) (((w1.setCell ⟨b, 1, none⟩ (.int .i64 ((n : Int) + 4 + 1))).alloc (.cells #[.int .u8 92, .int .u8 117] 5)).drew.drew) := (((hA1.set _ (n + 4 + 1) (by omega)).alloc _).drew).drew
              have hK3 : Kp b w (((w1.setCell ⟨b, 1, none⟩ (.int .i64 ((n : Int) + 4 + 1))).alloc (.cells #[.int .u8 92, .int .u8 117] 5)).drew.drew) := (((hK1.setCell _ _).alloc _).drew).drew
              by_cases s2 : n + 4 + 1 < T.size
              · by_cases e2 : byteAt T (n + 4 + 1) = 117
                · have b2 : (((byteAt T (n + 4 + 1)).toNat : Int) == 117) = true := by rw [e2]; rfl
                  have HR3 : Hid (codedR T st n = lowR st h (hexR T 4 0 (n + 4 + 2))) := by unfold Hid; rw [HR2.out, if_pos s2, if_pos e2]
                  clear e2
                  go_wp2_with fail
                  refine (here_ok b (n + 4 + 1) T _ hA3.c0 hA3.c1 s2).mono ?_
                  rintro e w3 ⟨rfl, rfl⟩
                  go_wp2_with fail
                  rw [rounds_succ]
                  go_wp2_with fail
                  have hA4 : At b T (n + 4 + 2) ((((w1.setCell ⟨b, 1, none⟩ (.int .i64 ((n : Int) + 4 + 1))).setCell ⟨b, 1, none⟩ (.int .i64 ((n : Int) + 4 + 1 + 1))).alloc (.cells #[.int .u8 92, .int .u8 117] 5)).drew.drew.drew.drew) := (((((((hA1.set _ (n + 4 + 1) (by omega)).set _ (n + 4 + 2) (by omega)).alloc _).drew).drew).drew).drew)
                  have hK4 : Kp b w ((((w1.setCell ⟨b, 1, none⟩ (.int .i64 ((n : Int) + 4 + 1))).setCell ⟨b, 1, none⟩ (.int .i64 ((n : Int) + 4 + 1 + 1))).alloc (.cells #[.int .u8 92, .int .u8 117] 5)).drew.drew.drew.drew) := ((((((hK1.setCell _ _).setCell _ _).alloc _).drew).drew).drew).drew
                  refine (hex_any b (n + 4 + 2) T _ hA4 (by omega) hT).mono ?_
                  intro e w5 hp
                  cases hh : hexR T 4 0 (n + 4 + 2) with
                  | bad er p =>
                    rw [hh] at hp
                    obtain ⟨rfl, hK5⟩ := hp
                    have HR : Hid (codedR T st n = .bad er p) := by unfold Hid; rw [HR3.out, hh]; rfl
                    clear hh
                    go_wp2_with fail
                    refine ⟨rfl, ?_⟩
                    rw [HR.out]
                    exact ⟨rfl, hK4.trans hK5⟩
                  | ok l m =>
                    rw [hh] at hp
                    obtain ⟨rfl, hA5, hK5, rfl, hm5, hl5⟩ := hp
                    have HR4 : Hid (codedR T st n = lowR st h (.ok l (n + 4 + 2 + 4))) := by unfold Hid; rw [HR3.out, hh]
                    clear hh
                    obtain ⟨lz, HLZ⟩ : ∃ z : Int, Hid ((l : Int) = z) := ⟨_, rfl⟩
                    rw [HLZ.out]
                    clear x0 x1 xf hA4 hA3 hK3 hA2 hK2 hA1 hK1
                    by_cases c1 : l < 56320
                    · have d4 : lz < 56320 := by have := HLZ.out; omega
                      have HR : Hid (codedR T st n = .bad 13 st) := by unfold Hid; rw [HR4.out, lowR, if_pos (Or.inl c1)]
                      clear c1
                      go_wp2_with fail
                      refine ⟨rfl, ?_⟩
                      rw [HR.out]
                      exact ⟨rfl, hK4.trans hK5⟩
                    · by_cases c2 : 57344 ≤ l
                      · have d4 : ¬ lz < 56320 := by have := HLZ.out; omega
                        have d5 : lz ≥ 57344 := by have := HLZ.out; omega
                        have HR : Hid (codedR T st n = .bad 13 st) := by unfold Hid; rw [HR4.out, lowR, if_pos (Or.inr c2)]
                        clear c1 c2
                        go_wp2_with fail
                        refine ⟨rfl, ?_⟩
                        rw [HR.out]
                        exact ⟨rfl, hK4.trans hK5⟩
                      · have d4 : ¬ lz < 56320 := by have := HLZ.out; omega
                        have d5 : ¬ lz ≥ 57344 := by have := HLZ.out; omega
                        have HL : Hid (56320 ≤ l ∧ l < 57344) := by unfold Hid; omega
                        clear c1 c2
                        go_wp2_with fail
                        go_ret
                        have HR : codedR T st n = .ok (pairV h l) (n + 4 + 2 + 4) := by rw [HR4.out, lowR, if_neg (by have := HL.out; omega)]
                        have HV : 65536 + (hz - 55296) * 1024 + (lz - 56320) = ((pairV h l : Nat) : Int) := by unfold pairV; have := HZ.out; have := HLZ.out; have := HH.out; have := HL.out; omega
                        have HU : pairV h l ≤ 1114111 := by unfold pairV; have := HH.out; have := HL.out; omega
                        rw [HR]
                        exact ⟨congrArg (fun z => Ending.returned (Value.int .i32 z)) HV, hA5, hK4.trans hK5, by omega, hm5, HU⟩
                · have b2 : (((byteAt T (n + 4 + 1)).toNat : Int) == 117) = false := beq_ne _ 117 e2
                  have HR3 : Hid (codedR T st n = .bad 13 st) := by unfold Hid; rw [HR2.out, if_pos s2, if_neg e2]
                  clear e2
                  go_wp2_with fail
                  refine (here_ok b (n + 4 + 1) T _ hA3.c0 hA3.c1 s2).mono ?_
                  rintro e w3 ⟨rfl, rfl⟩
                  go_wp2_with fail
                  refine ⟨rfl, ?_⟩
                  rw [HR3.out]
                  exact ⟨rfl, hK3.drew.drew⟩
              · have HR3 : Hid (codedR T st n = .bad 3 T.size) := by unfold Hid; rw [HR2.out, if_neg s2]
                have x1' := hA3.c1
                rw [show n + 4 + 1 = T.size by omega] at x1'
                clear s2
                go_wp2_with fail
                refine (here_short b T _ hA3.c0 x1').mono ?_
                rintro e w3 ⟨rfl, rfl⟩
                go_wp2_with fail
                refine ⟨rfl, ?_⟩
                rw [HR3.out]
                exact ⟨rfl, hK3.drew⟩
            · have b1 : (((byteAt T (n + 4)).toNat : Int) == 92) = false := beq_ne _ 92 e1
              have HR2 : Hid (codedR T st n = .bad 13 st) := by unfold Hid; rw [HR1.out, pairR, if_pos s1, if_neg e1]
              clear e1
              go_wp2_with fail
              refine (here_ok b (n + 4) T _ hA2.c0 hA2.c1 s1).mono ?_
              rintro e w3 ⟨rfl, rfl⟩
              go_wp2_with fail
              refine ⟨rfl, ?_⟩
              rw [HR2.out]
              exact ⟨rfl, hK2.drew.drew⟩
          · have HR2 : Hid (codedR T st n = .bad 3 T.size) := by unfold Hid; rw [HR1.out, pairR, if_neg s1]
            have x1' := hA2.c1
            rw [show n + 4 = T.size by omega] at x1'
            clear s1
            go_wp2_with fail
            refine (here_short b T _ hA2.c0 x1').mono ?_
            rintro e w3 ⟨rfl, rfl⟩
            go_wp2_with fail
            refine ⟨rfl, ?_⟩
            rw [HR2.out]
            exact ⟨rfl, hK2.drew⟩

def escFin (n : Nat) : Option Nat → Res Nat
  | some c => .ok c (n + 2)
  | none => .bad 12 (n + 1)
def escR (T : ByteArray) (n : Nat) : Res Nat :=
  if n + 1 < T.size then (if byteAt T (n + 1) = 117 then codedR T n (n + 2) else escFin n (unescN (byteAt T (n + 1)).toNat)) else .bad 3 T.size
theorem unescN_lt {c d : Nat} (h : unescN c = some d) : d < 128 := by
  unfold unescN at h
  repeat' split at h
  all_goals first | (simp at h; omega) | cases h
def EPost (b : Nat) (T : ByteArray) (n : Nat) (w : World) (e : Ending) (w' : World) : Res Nat → Prop
  | .ok s n' => e = .returned (.int .i32 (s : Int)) ∧ At b T n' w' ∧ Kp b w w' ∧ (n + 2 ≤ n' ∧ s < 128 ∨ n + 6 ≤ n') ∧ n' ≤ T.size ∧ s ≤ 1114111
  | .bad er p => e = .panicked (faultC er p) ∧ Kp b w w'
set_option maxHeartbeats 1000000 in
theorem escape_any (b n : Nat) (T : ByteArray) (w : World) (hA : At b T n w) (hn : n < T.size) (hT : T.size ≤ 65536) : Calls Tryz.prog 86 #[.pointer (some ⟨b, 0, none⟩)] w fun e w' => EPost b T n w e w' (escR T n) := by
  have x0 := hA.c0
  have x1 := hA.c1
  have xf := hA.fz 1
  have hA1 : At b T (n + 1) (w.setCell ⟨b, 1, none⟩ (.int .i64 ((n : Int) + 1))) := hA.set _ (n + 1) (by omega)
  have hK1 : Kp b w (w.setCell ⟨b, 1, none⟩ (.int .i64 ((n : Int) + 1))) := (Kp.refl _ _).setCell _ _
  go_enter Tryz.func86, Tryz.ntmps86
  go_wp2_with fail
  by_cases s1 : n + 1 < T.size
  · refine (here_ok b (n + 1) T _ hA1.c0 hA1.c1 s1).mono ?_
    rintro e w1 ⟨rfl, rfl⟩
    by_cases cu : byteAt T (n + 1) = 117
    · have b1 : (((byteAt T (n + 1)).toNat : Int) == 117) = true := by rw [cu]; rfl
      have HR : Hid (escR T n = codedR T n (n + 2)) := by unfold Hid escR; rw [if_pos s1, if_pos cu]
      clear cu
      go_wp2_with fail
      have hA2 : At b T (n + 2) (((w.setCell ⟨b, 1, none⟩ (.int .i64 ((n : Int) + 1))).setCell ⟨b, 1, none⟩ (.int .i64 ((n : Int) + 1 + 1))).drew.drew) := ((hA1.set _ (n + 2) (by omega)).drew).drew
      have hK2 : Kp b w (((w.setCell ⟨b, 1, none⟩ (.int .i64 ((n : Int) + 1))).setCell ⟨b, 1, none⟩ (.int .i64 ((n : Int) + 1 + 1))).drew.drew) := ((hK1.setCell _ _).drew).drew
      refine (coded_any b (n + 2) n T _ hA2 (by omega) hT).mono ?_
      intro e w3 hp
      cases hh : codedR T n (n + 2) with
      | bad er p =>
        rw [hh] at hp
        obtain ⟨rfl, hK3⟩ := hp
        have HR2 : Hid (escR T n = .bad er p) := by unfold Hid; rw [HR.out, hh]
        clear hh
        go_wp2_with fail
        refine ⟨rfl, ?_⟩
        rw [HR2.out]
        exact ⟨rfl, hK2.trans hK3⟩
      | ok s m =>
        rw [hh] at hp
        obtain ⟨rfl, hA3, hK3, hm1, hm2, hm3⟩ := hp
        have HR2 : Hid (escR T n = .ok s m) := by unfold Hid; rw [HR.out, hh]
        have HM : Hid (n + 2 + 4 ≤ m ∧ m ≤ T.size ∧ s ≤ 1114111) := ⟨hm1, hm2, hm3⟩
        clear hh hm1 hm2 hm3
        go_wp2_with fail
        go_ret
        rw [HR2.out]
        exact ⟨rfl, hA3, hK2.trans hK3, Or.inr (by have := HM.out; omega), HM.out.2.1, HM.out.2.2⟩
    · have b1 : (((byteAt T (n + 1)).toNat : Int) == 117) = false := beq_ne _ 117 cu
      have HR : Hid (escR T n = escFin n (unescN (byteAt T (n + 1)).toNat)) := by unfold Hid escR; rw [if_pos s1, if_neg cu]
      clear cu
      go_wp2_with fail
      refine (unesc_any (byteAt T (n + 1)) _).mono ?_
      rintro e w3 ⟨rfl, rfl⟩
      cases hu : unescN (byteAt T (n + 1)).toNat with
      | none =>
        have HR2 : Hid (escR T n = .bad 12 (n + 1)) := by unfold Hid; rw [HR.out, hu]; rfl
        clear hu
        simp only [optV]
        go_wp2_with fail
        refine ⟨rfl, ?_⟩
        rw [HR2.out]
        exact ⟨rfl, (hK1.drew).drew⟩
      | some d =>
        have HR2 : Hid (escR T n = .ok d (n + 2)) := by unfold Hid; rw [HR.out, hu]; rfl
        have HD : Hid (d < 128) := unescN_lt hu
        clear hu
        simp only [optV]
        go_wp2_with fail
        go_ret
        rw [HR2.out]
        have := HD.out
        exact ⟨rfl, ((hA1.set _ (n + 2) (by omega)).drew).drew, ((hK1.setCell _ _).drew).drew, Or.inl ⟨by omega, by omega⟩, by omega, by omega⟩
  · have HR : Hid (escR T n = .bad 3 T.size) := by unfold Hid escR; rw [if_neg s1]
    have x1' := hA1.c1
    rw [show n + 1 = T.size by omega] at x1'
    refine (here_short b T _ hA1.c0 x1').mono ?_
    rintro e w1 ⟨rfl, rfl⟩
    go_wp2_with fail
    refine ⟨rfl, ?_⟩
    rw [HR.out]
    exact ⟨rfl, hK1.drew⟩
end Go.Proofs.YtnccaidlcaeeaaaGreatDoor
