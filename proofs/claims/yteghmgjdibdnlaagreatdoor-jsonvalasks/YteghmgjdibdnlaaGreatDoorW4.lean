import Derived.Test.YteghmgjdibdnlaaGreatDoorW3
namespace Go.Proofs.YteghmgjdibdnlaaGreatDoor
open Go Go.RowKit

/-- One part behind the other, up to the closing bracket. -/
def loopR {α : Type} (part : α → Nat → Res α) (c : UInt8) (T : ByteArray) : Nat → α → Nat → Res α
  | 0, _, _ => .bad 0 0
  | f + 1, s, n => match part s n with
    | .bad e p => .bad e p
    | .ok s' n' =>
      if skip T n' < T.size then
        if byteAt T (skip T n') = c then .ok s' (skip T n' + 1)
        else if byteAt T (skip T n') = 44 then loopR part c T f s' (skip T (skip T n' + 1))
        else .bad 10 (skip T n')
      else .bad 3 T.size
def betweenR {α : Type} (part : α → Nat → Res α) (c : UInt8) (T : ByteArray) (s : α) (n : Nat) : Res α :=
  if skip T (n + 1) < T.size then
    if byteAt T (skip T (n + 1)) = c then .ok s (skip T (n + 1) + 1)
    else loopR part c T (T.size - skip T (n + 1) + 1) s (skip T (n + 1))
  else .bad 3 T.size
def BPost {α : Type} (b : Nat) (T : ByteArray) (n : Nat) (Inv : α → World → Prop) (G : World → Prop) (e : Ending) (w : World) : Res α → Prop
  | .ok s n' => e = .returned (.tuple #[]) ∧ Inv s w ∧ At b T n' w ∧ n < n' ∧ n' ≤ T.size
  | .bad er p => e = .panicked (faultC er p) ∧ G w

/-- What between asks of its part. -/
structure PartOk {α : Type} (b : Nat) (T : ByteArray) (F : Nat) (cap : Array Value) (part : α → Nat → Res α) (sz : α → Nat) (Inv : α → World → Prop) (G : World → Prop) : Prop where
  grow : ∀ s m s' m', part s m = .ok s' m' → sz s' ≤ sz s + 1
  keep : ∀ s w1 w2, Inv s w1 → Kp b w1 w2 → Inv s w2
  gone : ∀ s w1, Inv s w1 → G w1
  walk : ∀ s m w1, Inv s w1 → At b T m w1 → m ≤ T.size → sz s ≤ m → Calls Tryz.prog F cap w1 fun e w2 => BPost b T m Inv G e w2 (part s m)

theorem loopR_succ {α : Type} (part : α → Nat → Res α) (c : UInt8) (T : ByteArray) (f : Nat) (s : α) (n : Nat) : loopR part c T (f + 1) s n = match part s n with
    | .bad e p => .bad e p
    | .ok s' n' =>
      if skip T n' < T.size then
        if byteAt T (skip T n') = c then .ok s' (skip T n' + 1)
        else if byteAt T (skip T n') = 44 then loopR part c T f s' (skip T (skip T n' + 1))
        else .bad 10 (skip T n')
      else .bad 3 T.size := rfl

set_option maxHeartbeats 1000000 in
theorem between_list {α : Type} (b n : Nat) (T : ByteArray) (c : UInt8) (p1 p2 p3 : Addr) (part : α → Nat → Res α) (sz : α → Nat) (Inv : α → World → Prop) (G : World → Prop)
    (hP : PartOk b T 90 #[.pointer (some p1), .pointer (some p2), .pointer (some p3)] part sz Inv G) (s : α) (w : World) (hA : At b T n w) (hn : n < T.size) (hT : T.size ≤ 65536) (hI : Hid (Inv s w)) (hsz : sz s ≤ n) :
    Calls Tryz.prog 89 #[.pointer (some ⟨b, 0, none⟩), .int .u8 (c.toNat : Int), .func (.func 90) #[] #[.pointer (some p1), .pointer (some p2), .pointer (some p3)]] w fun e w' => BPost b T n Inv G e w' (betweenR part c T s n) := by
  have h0 := hA.c0
  have h1 := hA.c1
  have hf := hA.fz 1
  have hA1 : At b T (n + 1) (w.setCell ⟨b, 1, none⟩ (.int .i64 ((n : Int) + 1))) := hA.set _ (n + 1) (by omega)
  have hK1 : Kp b w (w.setCell ⟨b, 1, none⟩ (.int .i64 ((n : Int) + 1))) := (Kp.refl _ _).setCell _ _
  go_enter Tryz.func89, Tryz.ntmps89
  go_wp2_with fail
  refine (blanks_any b (n + 1) T _ hA1 (by omega) hT).mono ?_
  rintro e w1 ⟨rfl, hA2, hK2, _, hb1, hb2⟩
  have hK := hK1.trans hK2
  clear hK1 hK2 hA1 h0 h1 hf
  have h0 := hA2.c0
  have h1 := hA2.c1
  have hf := hA2.fz 1
  by_cases hlt : skip T (n + 1) < T.size
  · by_cases hc : byteAt T (skip T (n + 1)) = c
    · have HR : Hid (betweenR part c T s n = .ok s (skip T (n + 1) + 1)) := by unfold Hid betweenR; rw [if_pos hlt, if_pos hc]
      have hI1 : Hid (Inv s w1) := hP.keep _ _ _ hI.out hK
      have hceq : (((byteAt T (skip T (n + 1))).toNat : Int) == (c.toNat : Int)) = true := by rw [hc]; simp
      clear hc
      generalize skip T (n + 1) = m at *
      go_wp2_with fail
      refine (here_ok b m T _ h0 h1 hlt).mono ?_
      rintro e w2 ⟨rfl, rfl⟩
      go_wp2_with fail
      refine bodyPost_ret (v := .tuple #[]) (by simp [results, Tryz.results89, go_sem]) rfl ?_
      rw [HR.out]
      have hk3 : Kp b w1 (w1.setCell ⟨b, 1, none⟩ (.int .i64 ((m : Int) + 1))).drew.drew := ((Kp.refl _ _).setCell _ _).drew.drew
      exact ⟨rfl, hP.keep _ _ _ hI1.out hk3, (hA2.set _ (m + 1) (by omega)).drew.drew, by omega, by omega⟩
    · have HR : Hid (betweenR part c T s n = loopR part c T (T.size - skip T (n + 1) + 1) s (skip T (n + 1))) := by unfold Hid betweenR; rw [if_pos hlt, if_neg hc]
      have hI1 : Hid (Inv s w1) := hP.keep _ _ _ hI.out hK
      have hceq : (((byteAt T (skip T (n + 1))).toNat : Int) == (c.toNat : Int)) = false := by rw [u8_beq]; simpa using hc
      clear hc hI hK hA
      generalize skip T (n + 1) = m at *
      go_wp2_with fail
      refine (here_ok b m T _ h0 h1 hlt).mono ?_
      rintro e w2 ⟨rfl, rfl⟩
      go_wp2_with fail
      clear h0 h1 hf
      go_loopw [] (fun wr => ∃ (t : α) (k f : Nat), Hid (Inv t wr) ∧ At b T k wr ∧ n < k ∧ k ≤ T.size ∧ T.size ≤ k + f ∧ sz t ≤ k ∧ Hid (betweenR part c T s n = loopR part c T (f + 1) t k)) (fun wr => T.size - (intOf ((wr.cell? ⟨b, 1, none⟩).getD (.int .i64 0))).toNat)
      case atStart => exact ⟨s, m, T.size - m, hP.keep _ _ _ hI1.out (Kp.refl _ _).drew.drew, hA2.drew.drew, by omega, by omega, by omega, by omega, HR⟩
      case round =>
        clear HR hI1 hA2 hlt hceq
        obtain ⟨t, k, f, hIt, hAk, hnk, hk, hf, hszk, HR⟩ := hrel
        have hc1 := hAk.c1
        go_wp2_with fail
        refine (hP.walk t k _ hIt.out hAk hk hszk).mono ?_
        intro e w3 hB
        have HL := loopR_succ part c T f t k
        cases hp : part t k with
        | bad er p =>
          rw [hp] at hB HL
          obtain ⟨rfl, hG⟩ := hB
          have HR' : Hid (betweenR part c T s n = .bad er p) := HR.out.trans HL
          clear HL HR hp
          go_wp2_with fail
          refine ⟨rfl, ?_⟩
          rw [HR'.out]
          exact ⟨rfl, hG⟩
        | ok t' k' =>
          rw [hp] at hB HL
          obtain ⟨rfl, hIt', hAk', hkk, hk'⟩ := hB
          have HR' : Hid (betweenR part c T s n = _) := HR.out.trans HL
          have hJ : Hid (Inv t' w3) := hIt'
          have hgr := hP.grow _ _ _ _ hp
          clear HL HR hp hIt hIt' hAk
          go_wp2_with fail
          refine (blanks_any b k' T _ hAk' hk' hT).mono ?_
          rintro e w4 ⟨rfl, hA4, hK4, _, hb3, hb4⟩
          have hJ4 : Hid (Inv t' w4) := hP.keep _ _ _ hJ.out hK4
          clear hK4 hJ hAk'
          generalize skip T k' = m4 at *
          have q0 := hA4.c0
          have q1 := hA4.c1
          have qf := hA4.fz 1
          by_cases hlt : m4 < T.size
          · by_cases hc : byteAt T m4 = c
            · have hceq : (((byteAt T m4).toNat : Int) == (c.toNat : Int)) = true := by rw [hc]; simp
              have HR2 : Hid (betweenR part c T s n = .ok t' (m4 + 1)) := by
                have := HR'.out; rw [if_pos hlt, if_pos hc] at this; exact this
              clear hc HR'
              go_wp2_with fail
              refine (here_ok b m4 T _ q0 q1 hlt).mono ?_
              rintro e w5 ⟨rfl, rfl⟩
              go_wp2_with fail
              refine bodyPost_ret (v := .tuple #[]) (by simp [results, Tryz.results89, go_sem]) rfl ?_
              rw [HR2.out]
              have hk3 : Kp b w4 (w4.setCell ⟨b, 1, none⟩ (.int .i64 ((m4 : Int) + 1))).drew.drew := ((Kp.refl _ _).setCell _ _).drew.drew
              exact ⟨rfl, hP.keep _ _ _ hJ4.out hk3, (hA4.set _ (m4 + 1) (by omega)).drew.drew, by omega, by omega⟩
            · have hceq : (((byteAt T m4).toNat : Int) == (c.toNat : Int)) = false := by rw [u8_beq]; simpa using hc
              have HR2 : Hid (betweenR part c T s n = if byteAt T m4 = 44 then loopR part c T f t' (skip T (m4 + 1)) else .bad 10 m4) := by
                have := HR'.out; rw [if_pos hlt, if_neg hc] at this; exact this
              clear hc HR'
              go_wp2_with fail
              refine (here_ok b m4 T _ q0 q1 hlt).mono ?_
              rintro e w5 ⟨rfl, rfl⟩
              by_cases hcm : byteAt T m4 = 44
              · have HR3 : Hid (betweenR part c T s n = loopR part c T f t' (skip T (m4 + 1))) := by have := HR2.out; rw [if_pos hcm] at this; exact this
                have HC : Hid (byteAt T m4 = 44) := hcm
                clear hcm HR2
                go_wp2_with fail
                refine (pass_ok b m4 T 44 w4.drew.drew q0 q1 qf hlt hT HC.out).mono ?_
                rintro e w6 ⟨rfl, rfl⟩
                have hA6 : At b T (m4 + 1) (w4.setCell ⟨b, 1, none⟩ (.int .i64 ((m4 : Int) + 1))).drew.drew.drew.drew := hA4.set _ (m4 + 1) (by omega)
                have hk6 : Kp b w4 (w4.setCell ⟨b, 1, none⟩ (.int .i64 ((m4 : Int) + 1))).drew.drew.drew.drew := ((Kp.refl _ _).setCell _ _).drew.drew.drew.drew
                have hJ6 : Hid (Inv t' (w4.setCell ⟨b, 1, none⟩ (.int .i64 ((m4 : Int) + 1))).drew.drew.drew.drew) := hP.keep _ _ _ hJ4.out hk6
                clear hk6
                go_wp2_with fail
                refine (blanks_any b (m4 + 1) T _ hA6 (by omega) hT).mono ?_
                rintro e w7 ⟨rfl, hA7, hK7, _, hb7, hb8⟩
                have hJ7 : Hid (Inv t' w7) := hP.keep _ _ _ hJ6.out hK7
                generalize skip T (m4 + 1) = m7 at *
                have hf1 : ∃ f', f = f' + 1 := ⟨f - 1, by omega⟩
                obtain ⟨f', rfl⟩ := hf1
                clear hK7 hJ6 hA6
                go_wp2_with fail
                go_roundw
                case rel => exact ⟨t', m7, f', hJ7, hA7, by omega, by omega, by omega, by omega, HR3⟩
                case measure => rw [hA7.c1, hc1]; simp [intOf]; omega
              · have HR3 : Hid (betweenR part c T s n = .bad 10 m4) := by have := HR2.out; rw [if_neg hcm] at this; exact this
                have HC : Hid (byteAt T m4 ≠ 44) := hcm
                clear hcm HR2
                go_wp2_with fail
                refine (pass_bad b m4 T 44 w4.drew.drew q0 q1 hlt HC.out).mono ?_
                rintro e w6 ⟨rfl, rfl⟩
                go_wp2_with fail
                refine ⟨rfl, ?_⟩
                rw [HR3.out]
                exact ⟨rfl, hP.gone _ _ (hP.keep _ _ _ hJ4.out (Kp.refl _ _).drew.drew.drew.drew)⟩
          · have hme : m4 = T.size := by omega
            have HR2 : Hid (betweenR part c T s n = .bad 3 T.size) := by
              have := HR'.out; rw [if_neg hlt] at this; exact this
            subst hme
            clear HR' hlt
            go_wp2_with fail
            refine (here_short b T _ q0 q1).mono ?_
            rintro e w5 ⟨rfl, rfl⟩
            go_wp2_with fail
            refine ⟨rfl, ?_⟩
            rw [HR2.out]
            exact ⟨rfl, hP.gone _ _ (hP.keep _ _ _ hJ4.out (Kp.refl _ _).drew)⟩
  · have HR : Hid (betweenR part c T s n = .bad 3 T.size) := by unfold Hid betweenR; rw [if_neg hlt]
    have hI1 : Hid (Inv s w1) := hP.keep _ _ _ hI.out hK
    have hme : skip T (n + 1) = T.size := by omega
    rw [hme] at h1
    clear hme hlt
    go_wp2_with fail
    refine (here_short b T _ h0 h1).mono ?_
    rintro e w2 ⟨rfl, rfl⟩
    go_wp2_with fail
    refine ⟨rfl, ?_⟩
    rw [HR.out]
    exact ⟨rfl, hP.gone _ _ (hP.keep _ _ _ hI1.out (Kp.refl _ _).drew)⟩
set_option maxHeartbeats 1000000 in
theorem between_obj {α : Type} (b n : Nat) (T : ByteArray) (c : UInt8) (p1 p2 p3 p4 : Addr) (part : α → Nat → Res α) (sz : α → Nat) (Inv : α → World → Prop) (G : World → Prop)
    (hP : PartOk b T 91 #[.pointer (some p1), .pointer (some p2), .pointer (some p3), .pointer (some p4)] part sz Inv G) (s : α) (w : World) (hA : At b T n w) (hn : n < T.size) (hT : T.size ≤ 65536) (hI : Hid (Inv s w)) (hsz : sz s ≤ n) :
    Calls Tryz.prog 89 #[.pointer (some ⟨b, 0, none⟩), .int .u8 (c.toNat : Int), .func (.func 91) #[] #[.pointer (some p1), .pointer (some p2), .pointer (some p3), .pointer (some p4)]] w fun e w' => BPost b T n Inv G e w' (betweenR part c T s n) := by
  have h0 := hA.c0
  have h1 := hA.c1
  have hf := hA.fz 1
  have hA1 : At b T (n + 1) (w.setCell ⟨b, 1, none⟩ (.int .i64 ((n : Int) + 1))) := hA.set _ (n + 1) (by omega)
  have hK1 : Kp b w (w.setCell ⟨b, 1, none⟩ (.int .i64 ((n : Int) + 1))) := (Kp.refl _ _).setCell _ _
  go_enter Tryz.func89, Tryz.ntmps89
  go_wp2_with fail
  refine (blanks_any b (n + 1) T _ hA1 (by omega) hT).mono ?_
  rintro e w1 ⟨rfl, hA2, hK2, _, hb1, hb2⟩
  have hK := hK1.trans hK2
  clear hK1 hK2 hA1 h0 h1 hf
  have h0 := hA2.c0
  have h1 := hA2.c1
  have hf := hA2.fz 1
  by_cases hlt : skip T (n + 1) < T.size
  · by_cases hc : byteAt T (skip T (n + 1)) = c
    · have HR : Hid (betweenR part c T s n = .ok s (skip T (n + 1) + 1)) := by unfold Hid betweenR; rw [if_pos hlt, if_pos hc]
      have hI1 : Hid (Inv s w1) := hP.keep _ _ _ hI.out hK
      have hceq : (((byteAt T (skip T (n + 1))).toNat : Int) == (c.toNat : Int)) = true := by rw [hc]; simp
      clear hc
      generalize skip T (n + 1) = m at *
      go_wp2_with fail
      refine (here_ok b m T _ h0 h1 hlt).mono ?_
      rintro e w2 ⟨rfl, rfl⟩
      go_wp2_with fail
      refine bodyPost_ret (v := .tuple #[]) (by simp [results, Tryz.results89, go_sem]) rfl ?_
      rw [HR.out]
      have hk3 : Kp b w1 (w1.setCell ⟨b, 1, none⟩ (.int .i64 ((m : Int) + 1))).drew.drew := ((Kp.refl _ _).setCell _ _).drew.drew
      exact ⟨rfl, hP.keep _ _ _ hI1.out hk3, (hA2.set _ (m + 1) (by omega)).drew.drew, by omega, by omega⟩
    · have HR : Hid (betweenR part c T s n = loopR part c T (T.size - skip T (n + 1) + 1) s (skip T (n + 1))) := by unfold Hid betweenR; rw [if_pos hlt, if_neg hc]
      have hI1 : Hid (Inv s w1) := hP.keep _ _ _ hI.out hK
      have hceq : (((byteAt T (skip T (n + 1))).toNat : Int) == (c.toNat : Int)) = false := by rw [u8_beq]; simpa using hc
      clear hc hI hK hA
      generalize skip T (n + 1) = m at *
      go_wp2_with fail
      refine (here_ok b m T _ h0 h1 hlt).mono ?_
      rintro e w2 ⟨rfl, rfl⟩
      go_wp2_with fail
      clear h0 h1 hf
      go_loopw [] (fun wr => ∃ (t : α) (k f : Nat), Hid (Inv t wr) ∧ At b T k wr ∧ n < k ∧ k ≤ T.size ∧ T.size ≤ k + f ∧ sz t ≤ k ∧ Hid (betweenR part c T s n = loopR part c T (f + 1) t k)) (fun wr => T.size - (intOf ((wr.cell? ⟨b, 1, none⟩).getD (.int .i64 0))).toNat)
      case atStart => exact ⟨s, m, T.size - m, hP.keep _ _ _ hI1.out (Kp.refl _ _).drew.drew, hA2.drew.drew, by omega, by omega, by omega, by omega, HR⟩
      case round =>
        clear HR hI1 hA2 hlt hceq
        obtain ⟨t, k, f, hIt, hAk, hnk, hk, hf, hszk, HR⟩ := hrel
        have hc1 := hAk.c1
        go_wp2_with fail
        refine (hP.walk t k _ hIt.out hAk hk hszk).mono ?_
        intro e w3 hB
        have HL := loopR_succ part c T f t k
        cases hp : part t k with
        | bad er p =>
          rw [hp] at hB HL
          obtain ⟨rfl, hG⟩ := hB
          have HR' : Hid (betweenR part c T s n = .bad er p) := HR.out.trans HL
          clear HL HR hp
          go_wp2_with fail
          refine ⟨rfl, ?_⟩
          rw [HR'.out]
          exact ⟨rfl, hG⟩
        | ok t' k' =>
          rw [hp] at hB HL
          obtain ⟨rfl, hIt', hAk', hkk, hk'⟩ := hB
          have HR' : Hid (betweenR part c T s n = _) := HR.out.trans HL
          have hJ : Hid (Inv t' w3) := hIt'
          have hgr := hP.grow _ _ _ _ hp
          clear HL HR hp hIt hIt' hAk
          go_wp2_with fail
          refine (blanks_any b k' T _ hAk' hk' hT).mono ?_
          rintro e w4 ⟨rfl, hA4, hK4, _, hb3, hb4⟩
          have hJ4 : Hid (Inv t' w4) := hP.keep _ _ _ hJ.out hK4
          clear hK4 hJ hAk'
          generalize skip T k' = m4 at *
          have q0 := hA4.c0
          have q1 := hA4.c1
          have qf := hA4.fz 1
          by_cases hlt : m4 < T.size
          · by_cases hc : byteAt T m4 = c
            · have hceq : (((byteAt T m4).toNat : Int) == (c.toNat : Int)) = true := by rw [hc]; simp
              have HR2 : Hid (betweenR part c T s n = .ok t' (m4 + 1)) := by
                have := HR'.out; rw [if_pos hlt, if_pos hc] at this; exact this
              clear hc HR'
              go_wp2_with fail
              refine (here_ok b m4 T _ q0 q1 hlt).mono ?_
              rintro e w5 ⟨rfl, rfl⟩
              go_wp2_with fail
              refine bodyPost_ret (v := .tuple #[]) (by simp [results, Tryz.results89, go_sem]) rfl ?_
              rw [HR2.out]
              have hk3 : Kp b w4 (w4.setCell ⟨b, 1, none⟩ (.int .i64 ((m4 : Int) + 1))).drew.drew := ((Kp.refl _ _).setCell _ _).drew.drew
              exact ⟨rfl, hP.keep _ _ _ hJ4.out hk3, (hA4.set _ (m4 + 1) (by omega)).drew.drew, by omega, by omega⟩
            · have hceq : (((byteAt T m4).toNat : Int) == (c.toNat : Int)) = false := by rw [u8_beq]; simpa using hc
              have HR2 : Hid (betweenR part c T s n = if byteAt T m4 = 44 then loopR part c T f t' (skip T (m4 + 1)) else .bad 10 m4) := by
                have := HR'.out; rw [if_pos hlt, if_neg hc] at this; exact this
              clear hc HR'
              go_wp2_with fail
              refine (here_ok b m4 T _ q0 q1 hlt).mono ?_
              rintro e w5 ⟨rfl, rfl⟩
              by_cases hcm : byteAt T m4 = 44
              · have HR3 : Hid (betweenR part c T s n = loopR part c T f t' (skip T (m4 + 1))) := by have := HR2.out; rw [if_pos hcm] at this; exact this
                have HC : Hid (byteAt T m4 = 44) := hcm
                clear hcm HR2
                go_wp2_with fail
                refine (pass_ok b m4 T 44 w4.drew.drew q0 q1 qf hlt hT HC.out).mono ?_
                rintro e w6 ⟨rfl, rfl⟩
                have hA6 : At b T (m4 + 1) (w4.setCell ⟨b, 1, none⟩ (.int .i64 ((m4 : Int) + 1))).drew.drew.drew.drew := hA4.set _ (m4 + 1) (by omega)
                have hk6 : Kp b w4 (w4.setCell ⟨b, 1, none⟩ (.int .i64 ((m4 : Int) + 1))).drew.drew.drew.drew := ((Kp.refl _ _).setCell _ _).drew.drew.drew.drew
                have hJ6 : Hid (Inv t' (w4.setCell ⟨b, 1, none⟩ (.int .i64 ((m4 : Int) + 1))).drew.drew.drew.drew) := hP.keep _ _ _ hJ4.out hk6
                clear hk6
                go_wp2_with fail
                refine (blanks_any b (m4 + 1) T _ hA6 (by omega) hT).mono ?_
                rintro e w7 ⟨rfl, hA7, hK7, _, hb7, hb8⟩
                have hJ7 : Hid (Inv t' w7) := hP.keep _ _ _ hJ6.out hK7
                generalize skip T (m4 + 1) = m7 at *
                have hf1 : ∃ f', f = f' + 1 := ⟨f - 1, by omega⟩
                obtain ⟨f', rfl⟩ := hf1
                clear hK7 hJ6 hA6
                go_wp2_with fail
                go_roundw
                case rel => exact ⟨t', m7, f', hJ7, hA7, by omega, by omega, by omega, by omega, HR3⟩
                case measure => rw [hA7.c1, hc1]; simp [intOf]; omega
              · have HR3 : Hid (betweenR part c T s n = .bad 10 m4) := by have := HR2.out; rw [if_neg hcm] at this; exact this
                have HC : Hid (byteAt T m4 ≠ 44) := hcm
                clear hcm HR2
                go_wp2_with fail
                refine (pass_bad b m4 T 44 w4.drew.drew q0 q1 hlt HC.out).mono ?_
                rintro e w6 ⟨rfl, rfl⟩
                go_wp2_with fail
                refine ⟨rfl, ?_⟩
                rw [HR3.out]
                exact ⟨rfl, hP.gone _ _ (hP.keep _ _ _ hJ4.out (Kp.refl _ _).drew.drew.drew.drew)⟩
          · have hme : m4 = T.size := by omega
            have HR2 : Hid (betweenR part c T s n = .bad 3 T.size) := by
              have := HR'.out; rw [if_neg hlt] at this; exact this
            subst hme
            clear HR' hlt
            go_wp2_with fail
            refine (here_short b T _ q0 q1).mono ?_
            rintro e w5 ⟨rfl, rfl⟩
            go_wp2_with fail
            refine ⟨rfl, ?_⟩
            rw [HR2.out]
            exact ⟨rfl, hP.gone _ _ (hP.keep _ _ _ hJ4.out (Kp.refl _ _).drew)⟩
  · have HR : Hid (betweenR part c T s n = .bad 3 T.size) := by unfold Hid betweenR; rw [if_neg hlt]
    have hI1 : Hid (Inv s w1) := hP.keep _ _ _ hI.out hK
    have hme : skip T (n + 1) = T.size := by omega
    rw [hme] at h1
    clear hme hlt
    go_wp2_with fail
    refine (here_short b T _ h0 h1).mono ?_
    rintro e w2 ⟨rfl, rfl⟩
    go_wp2_with fail
    refine ⟨rfl, ?_⟩
    rw [HR.out]
    exact ⟨rfl, hP.gone _ _ (hP.keep _ _ _ hI1.out (Kp.refl _ _).drew)⟩
end Go.Proofs.YteghmgjdibdnlaaGreatDoor
