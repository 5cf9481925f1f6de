import Derived.Test.YtnccaidlcaeeaaaGreatDoorS2
import Derived.Deep.RegionHeld3
import Derived.Deep.DeepFit
import Derived.Lib.AtoiErrMem
import Derived.Shelf.Unicode.DecodeAny
namespace Go.Proofs.YtnccaidlcaeeaaaGreatDoor
open Go Go.RowKit

/-- What the reader leans on among the library's variables. -/
structure Env (w : World) : Prop where
  syn : ∃ tp p, w.cell? ⟨4, 0, none⟩ = some (.iface tp p)
  rng : ∃ tp p, w.cell? ⟨5, 0, none⟩ = some (.iface tp p)
  utf : Lib.Utf8Tabs 1 2 w
theorem utf_keep {w w' : World} (h : Lib.Utf8Tabs 1 2 w) (hk : ∀ k, k < 8 → w'.heap[k]? = w.heap[k]?) : Lib.Utf8Tabs 1 2 w' :=
  ⟨fun c hc => (World.cell?_of_block (w := w) (hk 1 (by omega))).trans (h.1 c hc), fun i hi => ⟨(World.cell?_of_block (w := w) (hk 2 (by omega))).trans (h.2 i hi).1, (World.cell?_of_block (w := w) (hk 2 (by omega))).trans (h.2 i hi).2⟩⟩
theorem Env.keep {w w' : World} (h : Env w) (hk : ∀ k, k < 8 → w'.heap[k]? = w.heap[k]?) : Env w' := by
  obtain ⟨⟨t1, p1, h1⟩, ⟨t2, p2, h2⟩, hu⟩ := h
  refine ⟨⟨t1, p1, ?_⟩, ⟨t2, p2, ?_⟩, utf_keep hu hk⟩
  · rw [World.cell?_of_block (w := w) (hk 4 (by omega))]; exact h1
  · rw [World.cell?_of_block (w := w) (hk 5 (by omega))]; exact h2
theorem Env.drew {w : World} (h : Env w) : Env w.drew := h.keep (fun _ _ => rfl)
theorem Env.size {w : World} (h : Env w) : 6 ≤ w.heap.size := by
  obtain ⟨_, ⟨t2, p2, h2⟩, _⟩ := h
  unfold World.cell? at h2
  split at h2
  · next hx => have := (Array.getElem?_eq_some_iff.1 hx).1; simp only at this; omega
  · cases h2

def PintPost (e : Ending) : Lib.NumEnd Int → Prop
  | .ok v => e = .returned (.tuple #[.int .i64 v, .nilIface])
  | _ => ∃ (x : Int) (N : Nat), e = .returned (.tuple #[.int .i64 x, .iface 136 (.pointer (some ⟨N, 0, none⟩))])
theorem pint_any (s : ByteArray) (hs : s.size ≤ 65536) (w : World) (hE : Env w) :
    Calls Tryz.prog 83 #[.string s, .int .i64 10, .int .i64 64] w fun e w' => Below w.heap.size w w' ∧ PintPost e (Lib.parseIntB 64 s.data.toList) := by
  obtain ⟨⟨t1, p1, h1⟩, ⟨t2, p2, h2⟩, _⟩ := hE
  cases h : Lib.parseIntB 64 s.data.toList with
  | ok v =>
    refine (Tryz.strconv_ParseInt_10_at64_ok s (by omega) v h w).mono ?_
    rintro e w' ⟨rfl, rfl | ⟨t, rfl⟩⟩
    · exact ⟨Below.refl _ _, rfl⟩
    · exact ⟨Lib.bytesWorld_below w 5 t, rfl⟩
  | «syntax» =>
    refine (Tryz.strconv_ParseInt_10_at64_syntax s (by omega) h _ w h1 (Or.inr ⟨_, _, rfl⟩)).mono ?_
    rintro e w' ⟨N, rfl, _, _, hb⟩
    exact ⟨hb, _, N, rfl⟩
  | range =>
    refine (Tryz.strconv_ParseInt_10_at64_range s (by omega) h _ w h2 (Or.inr ⟨_, _, rfl⟩)).mono ?_
    rintro e w' ⟨N, rfl, _, _, hb⟩
    exact ⟨hb, _, N, rfl⟩

theorem of_any (x : Int) (w : World) : Calls Tryz.prog 63 #[.int .i64 x] w fun e w' => e = .returned (vv 3 x noS nilS nilS) ∧ Below w.heap.size w w' := by
  go_enter Tryz.func63, Tryz.ntmps63
  go_wp2
  exact bodyPost_ret (v := vv 3 x noS nilS nilS) (by simp [results, Tryz.results63, go_sem, vv, nilS, noS]) rfl ⟨rfl, (Below.refl _ _).alloc (Nat.le_refl _) _⟩
theorem word_any (s : ByteArray) (w : World) : Calls Tryz.prog 65 #[.string s] w fun e w' => e = .returned (vv 4 0 s nilS nilS) ∧ Below w.heap.size w w' := by
  go_enter Tryz.func65, Tryz.ntmps65
  go_wp2
  exact bodyPost_ret (v := vv 4 0 s nilS nilS) (by simp [results, Tryz.results65, go_sem, vv, nilS]) rfl ⟨rfl, (Below.refl _ _).alloc (Nat.le_refl _) _⟩

def NPost (b : Nat) (T : ByteArray) (n : Nat) (w : World) (e : Ending) (w' : World) : Res Int → Prop
  | .ok v n' => e = .returned (.int .i64 v) ∧ At b T n' w' ∧ Kp b w w' ∧ n < n' ∧ n' ≤ T.size
  | .bad er p => e = .panicked (faultC er p) ∧ Kp b w w'

set_option maxHeartbeats 1000000 in
theorem number_any (b n : Nat) (T : ByteArray) (w : World) (hA : At b T n w) (hE : Env w) (hb8 : 8 ≤ b) (hn : n < T.size) (hT : T.size ≤ 65536) :
    Calls Tryz.prog 64 #[.pointer (some ⟨b, 0, none⟩)] w fun e w' => NPost b T n w e w' (numR T n) := by
  have h0 := hA.c0
  have h1 := hA.c1
  have hf := hA.fz 1
  have he := byteAt_eq hn
  by_cases hm : byteAt T n = 45
  · have hmi : (((byteAt T n).toNat : Int) == 45) = true := by rw [hm]; rfl
    have HN : Hid (numR T n = numAt T n (n + 1)) := by unfold Hid numR; rw [if_pos hm]
    have hAs : At b T (n + 1) (w.setCell ⟨b, 1, none⟩ (.int .i64 ((n : Int) + 1))) := hA.set _ (n + 1) (by omega)
    have hKs : Kp b w (w.setCell ⟨b, 1, none⟩ (.int .i64 ((n : Int) + 1))) := (Kp.refl _ _).setCell _ _
    clear hm
    by_cases hkT : n + 1 < T.size
    · by_cases hd : digit (byteAt T (n + 1)) = true
      · go_enter Tryz.func64, Tryz.ntmps64
        go_wp2_with fail
        refine (digits_ok b (n + 1) T _ (hAs) hkT hT hd).mono ?_
        rintro e w1 ⟨rfl, hA1, hK1, _, hl1, hl2⟩
        have HA : Hid (numAt T n (n + 1) = numFin T n (numEnd T (n + 1)) (Lib.parseIntB 64 (T.extract n (numEnd T (n + 1))).data.toList)) := by unfold Hid numAt; rw [if_pos hkT, if_pos hd]
        have hK1' := (hKs).trans hK1
        clear hK1
        generalize numEnd T (n + 1) = m at *
        have q0 := hA1.c0
        have q1 := hA1.c1
        have hE1 : Env w1 := hE.keep (fun k hk => hK1'.block k (by have := hA.lt; omega) (by omega))
        have hbl : b < w1.heap.size := hA1.lt
        have i1 : (0 : Int) ≤ (n : Int) := by omega
        have i2 : (n : Int) ≤ (m : Int) := by omega
        have i3 : (m : Int) ≤ (T.size : Int) := by omega
        have i4 : ¬ (T.size : Int) < (m : Int) := by omega
        have i5 : ¬ (m : Int) < (n : Int) := by omega
        have i6 : ¬ (m : Int) < 0 := by omega
        have i7 : ¬ (n : Int) < 0 := by omega
        have hsz : (T.extract n m).size ≤ 65536 := by rw [ByteArray.size_extract]; omega
        cases hpi : Lib.parseIntB 64 (T.extract n m).data.toList with
        | ok v =>
          have HF : Hid (numR T n = if m < T.size ∧ frac (byteAt T m) = true then .bad 14 m else .ok v m) := by unfold Hid; rw [HN.out, HA.out, hpi]; rfl
          have HP : Hid (Lib.parseIntB 64 (T.extract n m).data.toList = .ok v) := hpi
          clear hpi HA HN
          go_wp2_with fail
          go_region_held3 (fun w' => w'.cell? ⟨b, 0, none⟩ = some (.string T) ∧ w'.cell? ⟨b, 1, none⟩ = some (.int .i64 (m : Int))) (go_keep) ((go_at_call 83; refine (pint_any (T.extract n m) hsz w1.drew hE1.drew).mono ?_; rintro e w2 ⟨hb2, hp2⟩; rw [HP.out] at hp2; subst hp2; have g0 := (hb2.cell (p := ⟨b, 0, none⟩) hbl).trans q0; have g1 := (hb2.cell (p := ⟨b, 1, none⟩) hbl).trans q1))
          have hA2 : At b T m w2 := hA1.drew.kept hb2
          have hK2 : Kp b w w2 := hK1'.drew.trans (Kp.below hb2)
          clear hb2 q0 q1 HP
          by_cases hmT : m < T.size
          · have hd1 : decide ((m : Int) < (T.size : Int)) = true := by simp; omega
            have he2 := byteAt_eq hmT
            by_cases hfr : frac (byteAt T m) = true
            · have HG : Hid (numR T n = .bad 14 m) := by have := HF.out; rw [if_pos ⟨hmT, hfr⟩] at this; exact this
              clear HF
              go_wp2
              go_quiet ((go_at_call 84; exact Calls.quiet_of_same (isFrac_any _ _)))
              go_wp2
              refine ⟨rfl, ?_⟩
              rw [HG.out]
              exact ⟨rfl, hK2.drewN _⟩
            · have hfr' : frac (byteAt T m) = false := by simpa using hfr
              have HG : Hid (numR T n = .ok v m) := by have := HF.out; rw [if_neg (fun h => hfr h.2)] at this; exact this
              clear HF hfr
              go_wp2
              go_quiet ((go_at_call 84; exact Calls.quiet_of_same (isFrac_any _ _)))
              go_wp2
              go_ret
              rw [HG.out]
              exact ⟨rfl, hA2.drewN _, hK2.drewN _, by omega, by omega⟩
          · have hd1 : decide ((m : Int) < (T.size : Int)) = false := by simp; omega
            have HG : Hid (numR T n = .ok v m) := by have := HF.out; rw [if_neg (fun h => hmT h.1)] at this; exact this
            clear HF
            go_wp2
            go_quiet ((go_at_call 84; exact Calls.quiet_of_same (isFrac_any _ _)))
            go_wp2
            go_ret
            rw [HG.out]
            exact ⟨rfl, hA2.drewN _, hK2.drewN _, by omega, by omega⟩
        | «syntax» =>
          have HF : Hid (numR T n = .bad 15 n) := by unfold Hid; rw [HN.out, HA.out, hpi]; rfl
          have HP : Hid (Lib.parseIntB 64 (T.extract n m).data.toList = .«syntax») := hpi
          clear hpi HA HN
          go_wp2_with fail
          go_region_held3 (fun w' => w'.cell? ⟨b, 0, none⟩ = some (.string T) ∧ w'.cell? ⟨b, 1, none⟩ = some (.int .i64 (m : Int))) (go_keep) ((go_at_call 83; refine (pint_any (T.extract n m) hsz w1.drew hE1.drew).mono ?_; rintro e w2 ⟨hb2, hp2⟩; rw [HP.out] at hp2; obtain ⟨xx, NN, rfl⟩ := hp2; have g0 := (hb2.cell (p := ⟨b, 0, none⟩) hbl).trans q0; have g1 := (hb2.cell (p := ⟨b, 1, none⟩) hbl).trans q1))
          go_wp2
          refine ⟨rfl, ?_⟩
          rw [HF.out]
          exact ⟨rfl, (hK1'.drew.trans (Kp.below hb2))⟩
        | range =>
          have HF : Hid (numR T n = .bad 15 n) := by unfold Hid; rw [HN.out, HA.out, hpi]; rfl
          have HP : Hid (Lib.parseIntB 64 (T.extract n m).data.toList = .range) := hpi
          clear hpi HA HN
          go_wp2_with fail
          go_region_held3 (fun w' => w'.cell? ⟨b, 0, none⟩ = some (.string T) ∧ w'.cell? ⟨b, 1, none⟩ = some (.int .i64 (m : Int))) (go_keep) ((go_at_call 83; refine (pint_any (T.extract n m) hsz w1.drew hE1.drew).mono ?_; rintro e w2 ⟨hb2, hp2⟩; rw [HP.out] at hp2; obtain ⟨xx, NN, rfl⟩ := hp2; have g0 := (hb2.cell (p := ⟨b, 0, none⟩) hbl).trans q0; have g1 := (hb2.cell (p := ⟨b, 1, none⟩) hbl).trans q1))
          go_wp2
          refine ⟨rfl, ?_⟩
          rw [HF.out]
          exact ⟨rfl, (hK1'.drew.trans (Kp.below hb2))⟩
      · have hd' : digit (byteAt T (n + 1)) = false := by simpa using hd
        have HG : Hid (numR T n = .bad 10 (n + 1)) := by unfold Hid; rw [HN.out]; unfold numAt; rw [if_pos hkT, if_neg hd]
        clear hd HN
        go_enter Tryz.func64, Tryz.ntmps64
        go_wp2_with fail
        refine (digits_bad b (n + 1) T _ (hAs) hkT hd').mono ?_
        rintro e w1 ⟨rfl, rfl⟩
        go_wp2_with fail
        refine ⟨rfl, ?_⟩
        rw [HG.out]
        exact ⟨rfl, (hKs).drew.drew⟩
    · have hkE : n + 1 = T.size := by omega
      have HG : Hid (numR T n = .bad 3 T.size) := by unfold Hid; rw [HN.out]; unfold numAt; rw [if_neg hkT]
      have hA0' : At b T T.size (w.setCell ⟨b, 1, none⟩ (.int .i64 ((n : Int) + 1))) := by have := hAs; rwa [hkE] at this
      clear HN hkE
      go_enter Tryz.func64, Tryz.ntmps64
      go_wp2_with fail
      refine (digits_short b T _ hA0').mono ?_
      rintro e w1 ⟨rfl, rfl⟩
      go_wp2_with fail
      refine ⟨rfl, ?_⟩
      rw [HG.out]
      exact ⟨rfl, (hKs).drew⟩
  · have hmi : (((byteAt T n).toNat : Int) == 45) = false := by
      have := u8_beq (byteAt T n) 45
      have h45 : ((45 : UInt8).toNat : Int) = 45 := rfl
      rw [h45] at this; rw [this]; simpa using hm
    have HN : Hid (numR T n = numAt T n n) := by unfold Hid numR; rw [if_neg hm]
    clear hm
    by_cases hkT : n < T.size
    · by_cases hd : digit (byteAt T n) = true
      · go_enter Tryz.func64, Tryz.ntmps64
        go_wp2_with fail
        refine (digits_ok b (n) T _ (hA) hkT hT hd).mono ?_
        rintro e w1 ⟨rfl, hA1, hK1, _, hl1, hl2⟩
        have HA : Hid (numAt T n (n) = numFin T n (numEnd T (n)) (Lib.parseIntB 64 (T.extract n (numEnd T (n))).data.toList)) := by unfold Hid numAt; rw [if_pos hkT, if_pos hd]
        have hK1' := ((Kp.refl b w)).trans hK1
        clear hK1
        generalize numEnd T (n) = m at *
        have q0 := hA1.c0
        have q1 := hA1.c1
        have hE1 : Env w1 := hE.keep (fun k hk => hK1'.block k (by have := hA.lt; omega) (by omega))
        have hbl : b < w1.heap.size := hA1.lt
        have i1 : (0 : Int) ≤ (n : Int) := by omega
        have i2 : (n : Int) ≤ (m : Int) := by omega
        have i3 : (m : Int) ≤ (T.size : Int) := by omega
        have i4 : ¬ (T.size : Int) < (m : Int) := by omega
        have i5 : ¬ (m : Int) < (n : Int) := by omega
        have i6 : ¬ (m : Int) < 0 := by omega
        have i7 : ¬ (n : Int) < 0 := by omega
        have hsz : (T.extract n m).size ≤ 65536 := by rw [ByteArray.size_extract]; omega
        cases hpi : Lib.parseIntB 64 (T.extract n m).data.toList with
        | ok v =>
          have HF : Hid (numR T n = if m < T.size ∧ frac (byteAt T m) = true then .bad 14 m else .ok v m) := by unfold Hid; rw [HN.out, HA.out, hpi]; rfl
          have HP : Hid (Lib.parseIntB 64 (T.extract n m).data.toList = .ok v) := hpi
          clear hpi HA HN
          go_wp2_with fail
          go_region_held3 (fun w' => w'.cell? ⟨b, 0, none⟩ = some (.string T) ∧ w'.cell? ⟨b, 1, none⟩ = some (.int .i64 (m : Int))) (go_keep) ((go_at_call 83; refine (pint_any (T.extract n m) hsz w1.drew hE1.drew).mono ?_; rintro e w2 ⟨hb2, hp2⟩; rw [HP.out] at hp2; subst hp2; have g0 := (hb2.cell (p := ⟨b, 0, none⟩) hbl).trans q0; have g1 := (hb2.cell (p := ⟨b, 1, none⟩) hbl).trans q1))
          have hA2 : At b T m w2 := hA1.drew.kept hb2
          have hK2 : Kp b w w2 := hK1'.drew.trans (Kp.below hb2)
          clear hb2 q0 q1 HP
          by_cases hmT : m < T.size
          · have hd1 : decide ((m : Int) < (T.size : Int)) = true := by simp; omega
            have he2 := byteAt_eq hmT
            by_cases hfr : frac (byteAt T m) = true
            · have HG : Hid (numR T n = .bad 14 m) := by have := HF.out; rw [if_pos ⟨hmT, hfr⟩] at this; exact this
              clear HF
              go_wp2
              go_quiet ((go_at_call 84; exact Calls.quiet_of_same (isFrac_any _ _)))
              go_wp2
              refine ⟨rfl, ?_⟩
              rw [HG.out]
              exact ⟨rfl, hK2.drewN _⟩
            · have hfr' : frac (byteAt T m) = false := by simpa using hfr
              have HG : Hid (numR T n = .ok v m) := by have := HF.out; rw [if_neg (fun h => hfr h.2)] at this; exact this
              clear HF hfr
              go_wp2
              go_quiet ((go_at_call 84; exact Calls.quiet_of_same (isFrac_any _ _)))
              go_wp2
              go_ret
              rw [HG.out]
              exact ⟨rfl, hA2.drewN _, hK2.drewN _, by omega, by omega⟩
          · have hd1 : decide ((m : Int) < (T.size : Int)) = false := by simp; omega
            have HG : Hid (numR T n = .ok v m) := by have := HF.out; rw [if_neg (fun h => hmT h.1)] at this; exact this
            clear HF
            go_wp2
            go_quiet ((go_at_call 84; exact Calls.quiet_of_same (isFrac_any _ _)))
            go_wp2
            go_ret
            rw [HG.out]
            exact ⟨rfl, hA2.drewN _, hK2.drewN _, by omega, by omega⟩
        | «syntax» =>
          have HF : Hid (numR T n = .bad 15 n) := by unfold Hid; rw [HN.out, HA.out, hpi]; rfl
          have HP : Hid (Lib.parseIntB 64 (T.extract n m).data.toList = .«syntax») := hpi
          clear hpi HA HN
          go_wp2_with fail
          go_region_held3 (fun w' => w'.cell? ⟨b, 0, none⟩ = some (.string T) ∧ w'.cell? ⟨b, 1, none⟩ = some (.int .i64 (m : Int))) (go_keep) ((go_at_call 83; refine (pint_any (T.extract n m) hsz w1.drew hE1.drew).mono ?_; rintro e w2 ⟨hb2, hp2⟩; rw [HP.out] at hp2; obtain ⟨xx, NN, rfl⟩ := hp2; have g0 := (hb2.cell (p := ⟨b, 0, none⟩) hbl).trans q0; have g1 := (hb2.cell (p := ⟨b, 1, none⟩) hbl).trans q1))
          go_wp2
          refine ⟨rfl, ?_⟩
          rw [HF.out]
          exact ⟨rfl, (hK1'.drew.trans (Kp.below hb2))⟩
        | range =>
          have HF : Hid (numR T n = .bad 15 n) := by unfold Hid; rw [HN.out, HA.out, hpi]; rfl
          have HP : Hid (Lib.parseIntB 64 (T.extract n m).data.toList = .range) := hpi
          clear hpi HA HN
          go_wp2_with fail
          go_region_held3 (fun w' => w'.cell? ⟨b, 0, none⟩ = some (.string T) ∧ w'.cell? ⟨b, 1, none⟩ = some (.int .i64 (m : Int))) (go_keep) ((go_at_call 83; refine (pint_any (T.extract n m) hsz w1.drew hE1.drew).mono ?_; rintro e w2 ⟨hb2, hp2⟩; rw [HP.out] at hp2; obtain ⟨xx, NN, rfl⟩ := hp2; have g0 := (hb2.cell (p := ⟨b, 0, none⟩) hbl).trans q0; have g1 := (hb2.cell (p := ⟨b, 1, none⟩) hbl).trans q1))
          go_wp2
          refine ⟨rfl, ?_⟩
          rw [HF.out]
          exact ⟨rfl, (hK1'.drew.trans (Kp.below hb2))⟩
      · have hd' : digit (byteAt T (n)) = false := by simpa using hd
        have HG : Hid (numR T n = .bad 10 (n)) := by unfold Hid; rw [HN.out]; unfold numAt; rw [if_pos hkT, if_neg hd]
        clear hd HN
        go_enter Tryz.func64, Tryz.ntmps64
        go_wp2_with fail
        refine (digits_bad b (n) T _ (hA) hkT hd').mono ?_
        rintro e w1 ⟨rfl, rfl⟩
        go_wp2_with fail
        refine ⟨rfl, ?_⟩
        rw [HG.out]
        exact ⟨rfl, ((Kp.refl b w)).drew.drew⟩
    · exact absurd hn hkT
end Go.Proofs.YtnccaidlcaeeaaaGreatDoor
