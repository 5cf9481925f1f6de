import Derived.Test.YtnhijkmddfhcbaaGreatDoorX3
namespace Go.Proofs.YtnhijkmddfhcbaaGreatDoor
open Go Go.RowKit Go.Maps

theorem byte_get (S : ByteArray) (i : Nat) : byteAt S i = S.get! i := by
  rw [← Lib.getD_get!']
  unfold byteAt
  simp [Array.getD_eq_getD_getElem?, List.getD_eq_getElem?_getD]
theorem dec_N (T : ByteArray) (n : Nat) : Utf8.decode T n = Lib.decodeN (T.size - n) (byteAt T n).toNat (byteAt T (n + 1)).toNat (byteAt T (n + 2)).toNat (byteAt T (n + 3)).toNat := by
  rw [Lib.decode_at, byte_get, byte_get, byte_get, byte_get]
theorem dec_small (T : ByteArray) (n : Nat) (h : (Utf8.decode T n).1 < 128) : (Utf8.decode T n).1 = (byteAt T n).toNat ∧ (Utf8.decode T n).2 = 1 := by
  rw [dec_N] at h ⊢
  unfold Lib.decodeN at h ⊢
  repeat' split at h
  all_goals first | (simp only at h; omega) | simp_all
theorem dec_asc (T : ByteArray) (n : Nat) (h : (byteAt T n).toNat < 128) : Utf8.decode T n = ((byteAt T n).toNat, 1) := by
  rw [dec_N]
  unfold Lib.decodeN
  rw [if_pos h]
theorem dec_wide (T : ByteArray) (n : Nat) (h : n < T.size) : 1 ≤ (Utf8.decode T n).2 ∧ n + (Utf8.decode T n).2 ≤ T.size := by
  rw [dec_N]
  unfold Lib.decodeN
  repeat' split
  all_goals (simp only; omega)

/-- From n on up to what ends it, or is no character. -/
def plTo (T : ByteArray) : Nat → Nat → Res Unit
  | 0, _ => .bad 3 T.size
  | f + 1, n =>
    if n < T.size then
      if (Utf8.decode T n).1 = 34 ∨ (Utf8.decode T n).1 = 92 then .ok () n
      else if (Utf8.decode T n).1 < 32 then .bad 11 n
      else if (Utf8.decode T n).1 = 65533 then (if fullT T n = true then (if (Utf8.decode T n).2 = 1 then .bad 13 n else plTo T f (n + (Utf8.decode T n).2)) else .bad 3 T.size)
      else plTo T f (n + (Utf8.decode T n).2)
    else .bad 3 T.size
theorem plTo_more (T : ByteArray) : ∀ f g n, T.size - n ≤ f → T.size - n ≤ g → plTo T f n = plTo T g n
  | 0, 0, _, _, _ => rfl
  | 0, g + 1, n, hf, _ => by rw [plTo, plTo, if_neg (by omega)]
  | f + 1, 0, n, _, hg => by rw [plTo, plTo, if_neg (by omega)]
  | f + 1, g + 1, n, hf, hg => by
    rw [plTo, plTo]
    by_cases h : n < T.size
    · have := dec_wide T n h
      rw [plTo_more T f g (n + (Utf8.decode T n).2) (by omega) (by omega)]
    · rw [if_neg h, if_neg h]
def plR (T : ByteArray) (n : Nat) : Res Unit := plTo T (T.size - n) n
theorem plR_step (T : ByteArray) (n : Nat) (h : n < T.size) : plR T n =
      if (Utf8.decode T n).1 = 34 ∨ (Utf8.decode T n).1 = 92 then .ok () n
      else if (Utf8.decode T n).1 < 32 then .bad 11 n
      else if (Utf8.decode T n).1 = 65533 then (if fullT T n = true then (if (Utf8.decode T n).2 = 1 then .bad 13 n else plR T (n + (Utf8.decode T n).2)) else .bad 3 T.size)
      else plR T (n + (Utf8.decode T n).2) := by
  have hw := dec_wide T n h
  have e : plTo T (T.size - n - 1) (n + (Utf8.decode T n).2) = plR T (n + (Utf8.decode T n).2) := plTo_more T _ _ _ (by omega) (Nat.le_refl _)
  rw [← e]
  unfold plR
  obtain ⟨f, hf⟩ : ∃ f, T.size - n = f + 1 := ⟨T.size - n - 1, by omega⟩
  rw [hf, plTo, if_pos h]
  rfl
theorem plR_end (T : ByteArray) (n : Nat) (h : ¬ n < T.size) : plR T n = .bad 3 T.size := by
  unfold plR; rw [show T.size - n = 0 by omega, plTo]
def GPost (b : Nat) (T : ByteArray) (n : Nat) (w : World) (e : Ending) (w' : World) : Res Unit → Prop
  | .ok _ m => e = .returned (.string (T.extract n m)) ∧ At b T m w' ∧ Kp b w w' ∧ n ≤ m ∧ m < T.size ∧ (byteAt T m = 34 ∨ byteAt T m = 92)
  | .bad er p => e = .panicked (faultC er p) ∧ Kp b w w'
theorem nat_of_u8 {c : UInt8} {k : Nat} (h : c.toNat = k) (hk : k < 256) : c = UInt8.ofNat k := by
  subst h; simp

set_option maxHeartbeats 2000000 in
theorem plain_g (b n : Nat) (T : ByteArray) (w : World) (hA : At b T n w) (hE : Env w) (hb8 : 8 ≤ b) (hn : n ≤ T.size) (hT : T.size ≤ 65536) :
    Calls Tryz.prog 60 #[.pointer (some ⟨b, 0, none⟩)] w fun e w' => GPost b T n w e w' (plR T n) := by
  have h0 := hA.c0
  have h1 := hA.c1
  have hbl := hA.lt
  have i1 : (0 : Int) ≤ (n : Int) := by omega
  have i2 : (n : Int) ≤ (T.size : Int) := by omega
  have HSS : Hid ((T.extract n T.size).size = T.size - n) := Lib.tail_size T n
  have HU : Hid (∀ w', Kp b w w' → Lib.Utf8Tabs 1 2 w') := fun w' hK => utf_keep hE.utf (fun k hk => hK.block k (by omega) (by omega))
  clear hE
  go_enter Tryz.func60, Tryz.ntmps60
  go_wp2
  clear h0 h1
  go_loopw [] (fun wr => ∃ pos q : Nat, pos ≤ T.size - n ∧ At b T q wr ∧ Kp b w wr ∧ wr.heap[w.heap.size]? = some (.stringIter (T.extract n T.size) pos) ∧ Hid (plR T n = plR T (n + pos))) (fun wr => T.size - wr.iterPos w.heap.size)
  case atStart =>
    refine ⟨0, n, Nat.zero_le _, hA.alloc _, (Kp.refl _ _).alloc _, ?_, rfl⟩
    exact heap_alloc_new w _
  case round =>
    obtain ⟨pos, q, hpos, hAq, hK, hit, HB⟩ := hrel
    have hne : b ≠ w.heap.size := by omega
    by_cases hp : n + pos < T.size
    · have hps : pos < (T.extract n T.size).size := by rw [HSS.out]; omega
      have hwd := dec_wide T (n + pos) hp
      have HST := hid' (plR_step T (n + pos) hp)
      have HSM := hid' (dec_small T (n + pos))
      have hnx : ∀ ty, (Instr.next (.pointer (some ⟨w.heap.size, 0, none⟩)) true ty).run Tryz.prog wr = .ok (.tuple #[.bool true, .int .i64 pos, .int .i32 ((Utf8.decode T (n + pos)).1 : Int)]) (wr.iterAt w.heap.size (T.extract n T.size) (pos + (Utf8.decode T (n + pos)).2)) := fun ty => by
        rw [Lib.run_next_any_at wr w.heap.size _ pos ty hit hps, Lib.tail_decode]
      have HCO := hid' (fun (wq : World) (hAq : At b T (n + pos) wq) (hKq : Kp b w wq) (hf : fullT T (n + pos) = true) (hd : (Utf8.decode T (n + pos)).2 ≠ 1) => character_ok b (n + pos) T wq hAq (HU.out wq hKq) (by have := hKq.size; omega) hp hf hd)
      have HCB := hid' (fun (wq : World) (hAq : At b T (n + pos) wq) (hKq : Kp b w wq) (hf : fullT T (n + pos) = true) (hd : (Utf8.decode T (n + pos)).2 = 1) => character_bad b (n + pos) T wq hAq (HU.out wq hKq) (by have := hKq.size; omega) hp hf hd)
      have HCS := hid' (fun (wq : World) (hAq : At b T (n + pos) wq) (hKq : Kp b w wq) (hf : fullT T (n + pos) = false) => character_short b (n + pos) T wq hAq (HU.out wq hKq) (by have := hKq.size; omega) hp hf)
      generalize (Utf8.decode T (n + pos)).1 = dc at *
      generalize (Utf8.decode T (n + pos)).2 = dk at *
      have hA2 : At b T q (wr.iterAt w.heap.size (T.extract n T.size) (pos + dk)) := at_iter hAq hne _ _
      have hK2 : Kp b w (wr.iterAt w.heap.size (T.extract n T.size) (pos + dk)) := kp_iter hK (Nat.le_refl _) _ _
      have HIT : Hid (wr.iterPos w.heap.size = pos) := by simp [Hid, World.iterPos, hit]
      have HIT2 : Hid ((wr.iterAt w.heap.size (T.extract n T.size) (pos + dk)).heap[w.heap.size]? = some (.stringIter (T.extract n T.size) (pos + dk))) := Lib.iterAt_heap wr w.heap.size _ pos (pos + dk) hit
      clear hit
      generalize wr.iterAt w.heap.size (T.extract n T.size) (pos + dk) = wx at *
      obtain ⟨cz, HCZ⟩ : ∃ z : Int, Hid ((dc : Int) = z) := ⟨_, rfl⟩
      rw [HCZ.out] at hnx
      have x0 := hA2.c0
      have x1 := hA2.c1
      have xf := hA2.fz 1
      have j1 : (n : Int) + (pos : Int) ≤ 65536 := by omega
      have j2 : (n : Int) + (pos : Int) ≤ (T.size : Int) := by omega
      have j3 : (n : Int) ≤ (n : Int) + (pos : Int) := by omega
      have j4 : (0 : Int) ≤ (n : Int) + (pos : Int) := by omega
      have hA3 : At b T (n + pos) (wx.setCell ⟨b, 1, none⟩ (.int .i64 ((n : Int) + (pos : Int)))) := hA2.set _ (n + pos) (by omega)
      have hK3 : Kp b w (wx.setCell ⟨b, 1, none⟩ (.int .i64 ((n : Int) + (pos : Int)))) := hK2.setCell _ _
      by_cases cq : dc = 34 ∨ dc = 92
      · have HR : Hid (plR T n = .ok () (n + pos)) := by unfold Hid; rw [HB.out, HST.out, if_pos cq]
        have HC : Hid (byteAt T (n + pos) = 34 ∨ byteAt T (n + pos) = 92) := by
          have h := (HSM.out (by omega)).1
          rcases cq with e | e
          · exact Or.inl (nat_of_u8 (h.symm.trans e) (by decide))
          · exact Or.inr (nat_of_u8 (h.symm.trans e) (by decide))
        have e34 : ((cz == 34) = true) ∨ ((cz == 34) = false ∧ (cz == 92) = true) := by
          have := HCZ.out
          rcases cq with e | e
          · exact Or.inl (by simp; omega)
          · exact Or.inr ⟨by simp; omega, by simp; omega⟩
        clear cq HST HSM HCO HCB HCS
        rcases e34 with e34 | ⟨e34, e92⟩
        all_goals
          go_wp2
          go_quiet (fail)
          go_wp2
          go_ret
          rw [HR.out]
          exact ⟨rfl, hA3.drewN _, hK3.drewN _, by omega, hp, HC.out⟩
      · have e34 : (cz == 34) = false := by have := HCZ.out; simp; omega
        have e92 : (cz == 92) = false := by have := HCZ.out; simp; omega
        by_cases c32 : dc < 32
        · have HR : Hid (plR T n = .bad 11 (n + pos)) := by unfold Hid; rw [HB.out, HST.out, if_neg cq, if_pos c32]
          have l32 : cz < 32 := by have := HCZ.out; omega
          clear cq HST HSM HCO HCB HCS c32
          go_wp2
          refine ⟨rfl, ?_⟩
          rw [HR.out]
          exact ⟨rfl, hK3⟩
        · have l32 : ¬ cz < 32 := by have := HCZ.out; omega
          by_cases c65 : dc = 65533
          · have l65 : (cz == 65533) = true := by have := HCZ.out; simp; omega
            have HS2 : Hid (plR T (n + pos) = (if fullT T (n + pos) = true then (if dk = 1 then .bad 13 (n + pos) else plR T (n + pos + dk)) else .bad 3 T.size)) := by unfold Hid; rw [HST.out, if_neg cq, if_neg c32, if_pos c65]
            clear cq HST HSM c32 c65
            cases hf : fullT T (n + pos) with
            | false =>
              have HR : Hid (plR T n = .bad 3 T.size) := by unfold Hid; rw [HB.out, HS2.out, hf, if_neg (by decide)]
              have HC := hid' (HCS.out _ hA3 hK3 hf)
              clear hf HCO HCB HCS HS2
              go_wp2_with fail
              refine HC.out.mono ?_
              rintro e w3 ⟨rfl, hb3⟩
              have hK4 : Kp b w w3 := hK3.trans (Kp.below hb3)
              clear hb3 HC
              go_wp2_with fail
              refine ⟨rfl, ?_⟩
              rw [HR.out]
              exact ⟨rfl, hK4⟩
            | true =>
              by_cases hd : dk = 1
              · have HR : Hid (plR T n = .bad 13 (n + pos)) := by unfold Hid; rw [HB.out, HS2.out, hf, if_pos rfl, if_pos hd]
                have HC := hid' (HCB.out _ hA3 hK3 hf hd)
                clear hf hd HCO HCB HCS HS2
                go_wp2_with fail
                refine HC.out.mono ?_
                rintro e w3 ⟨rfl, hb3⟩
                have hK4 : Kp b w w3 := hK3.trans (Kp.below hb3)
                clear hb3 HC
                go_wp2_with fail
                refine ⟨rfl, ?_⟩
                rw [HR.out]
                exact ⟨rfl, hK4⟩
              · have HR : Hid (plR T n = plR T (n + (pos + dk))) := by unfold Hid; rw [HB.out, HS2.out, hf, if_pos rfl, if_neg hd, Nat.add_assoc]
                have HC := hid' (HCO.out _ hA3 hK3 hf hd)
                clear hf hd HCO HCB HCS HS2
                go_wp2_with fail
                refine HC.out.mono ?_
                rintro e w3 ⟨rfl, hb3⟩
                have hK4 : Kp b w w3 := hK3.trans (Kp.below hb3)
                have hsx : w.heap.size < (wx.setCell ⟨b, 1, none⟩ (.int .i64 ((n : Int) + (pos : Int)))).heap.size := by rw [Kp.sz_set]; exact (Array.getElem?_eq_some_iff.1 HIT2.out).1
                have hA4 : At b T (n + pos) w3 := (hb3.block b (by omega)).trans hA3
                have HIT3 : Hid (w3.heap[w.heap.size]? = some (.stringIter (T.extract n T.size) (pos + dk))) := by
                  unfold Hid
                  rw [hb3.block w.heap.size hsx, Below.heap_setCell _ _ _ _ (Ne.symm hne)]; exact HIT2.out
                clear hb3 HC
                go_wp2_with fail
                go_roundw
                case rel => exact ⟨pos + dk, n + pos, by omega, hA4, hK4, HIT3.out, HR⟩
                case measure =>
                  have h3 : w3.iterPos w.heap.size = pos + dk := by unfold World.iterPos; rw [HIT3.out]
                  rw [h3, HIT.out]
                  omega
          · have l65 : (cz == 65533) = false := by have := HCZ.out; simp; omega
            have HR : Hid (plR T n = plR T (n + (pos + dk))) := by unfold Hid; rw [HB.out, HST.out, if_neg cq, if_neg c32, if_neg c65, Nat.add_assoc]
            clear cq HST HSM HCO HCB HCS c32 c65
            go_wp2
            go_roundw
            case rel =>
              refine ⟨pos + dk, n + pos, by omega, hA3, hK3, ?_, HR⟩
              rw [Below.heap_setCell _ _ _ _ (Ne.symm hne)]; exact HIT2.out
            case measure =>
              have h3 : (wx.setCell ⟨b, 1, none⟩ (.int .i64 ((n : Int) + (pos : Int)))).iterPos w.heap.size = pos + dk := by
                unfold World.iterPos
                rw [Below.heap_setCell _ _ _ _ (Ne.symm hne), HIT2.out]
              rw [h3, HIT.out]
              omega
    · have hpe : n + pos = T.size := by omega
      have hnx : ∀ ty, (Instr.next (.pointer (some ⟨w.heap.size, 0, none⟩)) true ty).run Tryz.prog wr = .ok (.tuple #[.bool false]) wr := fun ty => Lib.run_next_end_at wr w.heap.size _ pos ty hit (by rw [HSS.out]; omega)
      have HR : Hid (plR T n = .bad 3 T.size) := by unfold Hid; rw [HB.out, plR_end T _ hp]
      have x0 := hAq.c0
      clear hpe hit
      go_wp2
      refine ⟨rfl, ?_⟩
      rw [HR.out]
      exact ⟨rfl, hK⟩
end Go.Proofs.YtnhijkmddfhcbaaGreatDoor
