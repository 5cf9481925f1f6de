import Derived.Test.YtnccaidlcaeeaaaGreatDoorX5
import Derived.Test.YtnccaidlcaeeaaaGreatDoorW23
namespace Go.Proofs.YtnccaidlcaeeaaaGreatDoor
open Go Go.RowKit Go.Maps

theorem encB_len (c : Nat) : (encB c).length ≤ 4 := by
  unfold encB Lib.encodeRune; rw [List.length_map]; exact (Lib.encodeRuneZ_length _).2
theorem encB_one (c : Nat) (h : c < 128) : (encB c).length = 1 := by
  unfold encB Lib.encodeRune; rw [List.length_map, Lib.encodeRuneZ_one (by omega) (by omega)]; rfl
theorem bytesOf_len (T : ByteArray) (n m : Nat) (h : m ≤ T.size) : (bytesOf T n m).length = m - n := by
  unfold bytesOf
  have : (T.extract n m).size = m - n := by rw [ByteArray.size_extract]; omega
  show (T.extract n m).data.toList.length = _
  rw [Array.length_toList]
  exact this
def posOf (w : World) (b : Nat) : Nat := match w.cell? ⟨b, 1, none⟩ with | some (.int _ z) => z.toNat | _ => 0
theorem posOf_at {b n : Nat} {T : ByteArray} {w : World} (h : At b T n w) : posOf w b = n := by unfold posOf; rw [h.c1]; simp
/-- The builder at B stays, what was there stays but for b, when all from B on is kept. -/
theorem Bd.keepK {B b : Nat} {acc : List UInt8} {w w' : World} (h : Bd B acc w) (hk : Kp b w w') (hb : b < B) : Bd B acc w' := by
  rcases h with h | h
  · exact Or.inl (builder_keep h (fun k h1 h2 => hk.block k h2 (by omega)))
  · exact Or.inr (builder_keep h (fun k h1 h2 => hk.block k h2 (by omega)))
theorem St.kp {B b : Nat} {x w w' : World} (h : St B w w') (hk : Kp b x w) (hB : x.heap.size ≤ B) : Kp b x w' :=
  ⟨h.below.os.trans hk.os, h.below.tape.trans hk.tape, h.below.output.trans hk.output, Nat.le_trans hk.size h.below.size, fun k h1 h2 => (h.below.block k (by omega)).trans (hk.block k h1 h2)⟩

set_option maxHeartbeats 2000000 in
theorem quoted_g (T : ByteArray) (hT : T.size ≤ 65536) : QuotedOk T (textR T) := by
  intro b n w hA hE hb8 hn hc
  have h0 := hA.c0
  have h1 := hA.c1
  have hf := hA.fz 1
  have hbl := hA.lt
  have hA1 : At b T (n + 1) (w.setCell ⟨b, 1, none⟩ (.int .i64 ((n : Int) + 1))) := hA.set _ (n + 1) (by omega)
  have hK1 : Kp b w (w.setCell ⟨b, 1, none⟩ (.int .i64 ((n : Int) + 1))) := (Kp.refl _ _).setCell _ _
  have HS : Hid ((w.setCell ⟨b, 1, none⟩ (.int .i64 ((n : Int) + 1))).heap.size = w.heap.size) := Kp.sz_set _ _ _
  have HE : Hid (∀ w', Kp b w w' → Env w') := fun w' hK => hE.keep (fun k hk => hK.block k (by omega) (by omega))
  have HB1 : Hid (Bd w.heap.size [] ((w.setCell ⟨b, 1, none⟩ (.int .i64 ((n : Int) + 1))).alloc (.cells #[.pointer none, .slice none 0 0] 64))) := by
    unfold Hid Bd
    exact fresh_b (alloc_at HS.out.symm)
  clear hc hE
  go_enter Tryz.func66, Tryz.ntmps66
  go_wp2_with fail
  go_loopw [] (fun wr => ∃ (p : Nat) (acc : List UInt8), n < p ∧ p ≤ T.size ∧ acc.length ≤ p ∧ At b T p wr ∧ Kp b w wr ∧ w.heap.size < wr.heap.size ∧ Hid (Bd w.heap.size acc wr) ∧ Hid (textR T n = txR T acc p)) (fun wr => T.size + 1 - posOf wr b)
  case atStart =>
    exact ⟨n + 1, [], by omega, by omega, by simp, hA1.alloc _, hK1.alloc _, by rw [World.size_alloc, HS.out]; omega, HB1, rfl⟩
  case round =>
    obtain ⟨p, acc, hp1, hp2, hal, hAp, hKp, hsz, HBd, HTX⟩ := hrel
    have HPO := hid' (posOf_at hAp)
    have HST := hid' (txR_step T acc p hp2)
    go_wp2_with fail
    refine (plain_g b p T wr hAp (HE.out wr hKp) hb8 hp2 hT).mono ?_
    intro e w2 hq
    cases hl : plR T p with
    | bad er q =>
      rw [hl] at hq
      obtain ⟨rfl, hK2⟩ := hq
      have HR : Hid (textR T n = .bad er q) := by unfold Hid; rw [HTX.out, HST.out, hl]
      clear hl HST
      go_wp2_with fail
      refine ⟨rfl, ?_⟩
      rw [HR.out]
      exact ⟨rfl, hKp.trans hK2⟩
    | ok u m =>
      rw [hl] at hq
      obtain ⟨rfl, hA2, hK2, hm1, hm2, hm3⟩ := hq
      have HS1 : Hid (textR T n = (if byteAt T m = 34 then .ok ⟨(acc ++ bytesOf T p m).toArray⟩ (m + 1) else match escR T m with | .bad e p => .bad e p | .ok c m' => txR T (acc ++ bytesOf T p m ++ encB c) m')) := by unfold Hid; rw [HTX.out, HST.out, hl]; rfl
      have HB2 : Hid (Bd w.heap.size acc w2) := HBd.out.keepK hK2 hbl
      have hz2 := hK2.size
      have HBL := hid' (bytesOf_len T p m (by omega))
      have hxs : (T.extract p m).size ≤ 65536 := by rw [ByteArray.size_extract]; omega
      have HXS := hid' hxs
      have HM3 := hid' hm3
      clear hl HST hxs hm3
      go_wp2_with fail
      refine (wS w.heap.size acc (T.extract p m) w2 HB2.out (by omega) (by have := HXS.out; omega)).mono ?_
      rintro e w3 ⟨rfl, hb3, hst3⟩
      have HB3 : Hid (Bd w.heap.size (acc ++ bytesOf T p m) w3) := hb3
      have hA3 : At b T m w3 := (hst3.below.block b hbl).trans hA2
      have hK3 : Kp b w w3 := hst3.kp (hKp.trans hK2) (Nat.le_refl _)
      have hz3 := hst3.below.size
      have x0 := hA3.c0
      have x1 := hA3.c1
      have xf := hA3.fz 1
      have he := byteAt_eq hm2
      clear hb3 hst3
      by_cases c34 : byteAt T m = 34
      · have e34 : (((byteAt T m).toNat : Int) == 34) = true := by rw [c34]; rfl
        have HR : Hid (textR T n = .ok ⟨(acc ++ bytesOf T p m).toArray⟩ (m + 1)) := by unfold Hid; rw [HS1.out, if_pos c34]
        clear c34
        go_wp2_with fail
        go_quiet (fail)
        go_wp2_with fail
        have hA4 : At b T (m + 1) ((w3.drewN nq).setCell ⟨b, 1, none⟩ (.int .i64 ((m : Int) + 1))) := (hA3.drewN nq).set _ (m + 1) (by omega)
        have hK4 : Kp b w ((w3.drewN nq).setCell ⟨b, 1, none⟩ (.int .i64 ((m : Int) + 1))) := (hK3.drewN nq).setCell _ _
        have hI4 : Bd w.heap.size (acc ++ bytesOf T p m) ((w3.drewN nq).setCell ⟨b, 1, none⟩ (.int .i64 ((m : Int) + 1))) := HB3.out.keepK (((Kp.refl b w3).drewN nq).setCell 1 (.int .i64 ((m : Int) + 1))) hbl
        refine (Tryz.Builder_String_any_k w.heap.size w.heap.size (acc ++ bytesOf T p m) _ hI4 (Nat.le_of_lt hI4.lt)).mono ?_
        rintro e w5 ⟨rfl, _, hb5, _⟩
        have hA5 : At b T (m + 1) w5 := (hb5.block b hbl).trans hA4
        have hK5 : Kp b w w5 := ⟨hb5.os.trans hK4.os, hb5.tape.trans hK4.tape, hb5.output.trans hK4.output, Nat.le_trans hK4.size hb5.size, fun k hk hkb => (hb5.block k hk).trans (hK4.block k hk hkb)⟩
        clear hI4 hA4 hK4 hb5
        go_wp2_with fail
        go_ret
        rw [HR.out]
        refine ⟨rfl, ?_, hA5, hK5, by omega, by omega⟩
        show (acc ++ bytesOf T p m).toArray.size ≤ 65536
        have := HBL.out
        simp; omega
      · have e34 : (((byteAt T m).toNat : Int) == 34) = false := beq_ne _ 34 c34
        have HS2 : Hid (textR T n = match escR T m with | .bad e p => .bad e p | .ok c m' => txR T (acc ++ bytesOf T p m ++ encB c) m') := by unfold Hid; rw [HS1.out, if_neg c34]
        clear c34 HS1
        go_wp2_with fail
        go_quiet (fail)
        go_wp2_with fail
        refine (escape_any b m T (w3.drewN nq) (hA3.drewN nq) hm2 hT).mono ?_
        intro e w4 hq
        cases hes : escR T m with
        | bad er q =>
          rw [hes] at hq
          obtain ⟨rfl, hK4⟩ := hq
          have HR : Hid (textR T n = .bad er q) := by unfold Hid; rw [HS2.out, hes]
          clear hes HS2
          go_wp2_with fail
          refine ⟨rfl, ?_⟩
          rw [HR.out]
          exact ⟨rfl, (hK3.drewN nq).trans hK4⟩
        | ok c m' =>
          rw [hes] at hq
          obtain ⟨rfl, hA4, hK4, hm4, hm5, hm6⟩ := hq
          have HR : Hid (textR T n = txR T (acc ++ bytesOf T p m ++ encB c) m') := by unfold Hid; rw [HS2.out, hes]
          have HM4 := hid' hm4
          have HM6 := hid' hm6
          have HB4 : Hid (Bd w.heap.size (acc ++ bytesOf T p m) w4) := HB3.out.keepK (((Kp.refl b w3).drewN nq).trans hK4) hbl
          have hK4' : Kp b w w4 := (hK3.drewN nq).trans hK4
          have hz4 : w3.heap.size ≤ w4.heap.size := hK4.size
          have HLL : Hid ((acc ++ bytesOf T p m).length ≤ 1000000000) := by have := HBL.out; unfold Hid; rw [List.length_append]; omega
          clear hes HS2 hm4 hm6 hK4 x0 x1 xf he
          go_wp2_with fail
          refine (wRn w.heap.size _ c HM6.out w4 HB4.out HLL.out).mono ?_
          rintro e w5 ⟨⟨v, rfl⟩, hb5, hst5⟩
          have HB5 : Hid (Bd w.heap.size (acc ++ bytesOf T p m ++ encB c) w5) := hb5
          have hA5 : At b T m' w5 := (hst5.below.block b hbl).trans hA4
          have hK5 : Kp b w w5 := hst5.kp hK4' (Nat.le_refl _)
          have hz5 := hst5.below.size
          have HL5 : Hid ((acc ++ bytesOf T p m ++ encB c).length ≤ m') := by
            have h1 := HBL.out
            have h2 := encB_len c
            unfold Hid
            rw [List.length_append, List.length_append]
            rcases HM4.out with ⟨h3, h4⟩ | h3
            · have := encB_one c h4; omega
            · omega
          have HM7 : Hid (m + 2 ≤ m') := by unfold Hid; rcases HM4.out with ⟨h3, _⟩ | h3 <;> omega
          clear hb5 hst5
          go_wp2_with fail
          go_roundw
          case rel => exact ⟨m', _, by have := HM7.out; omega, hm5, HL5.out, hA5, hK5, by omega, HB5, HR⟩
          case measure =>
            rw [posOf_at hA5, HPO.out]
            have := HM7.out
            omega
end Go.Proofs.YtnccaidlcaeeaaaGreatDoor
