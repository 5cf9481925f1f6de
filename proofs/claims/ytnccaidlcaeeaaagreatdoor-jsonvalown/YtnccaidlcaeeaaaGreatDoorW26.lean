import Derived.Test.YtnccaidlcaeeaaaGreatDoorW23
namespace Go.Proofs.YtnccaidlcaeeaaaGreatDoor
open Go Go.RowKit Go.Maps

def sepT (i : Nat) : List UInt8 := if i = 0 then [] else [44]
def accT (pre f : Nat → List UInt8) : Nat → List UInt8
  | 0 => []
  | i + 1 => accT pre f i ++ sepT i ++ pre i ++ f i
theorem accT_len (pre f : Nat → List UInt8) {a b : Nat} (h : a ≤ b) : (accT pre f a).length ≤ (accT pre f b).length := by
  induction b with
  | zero => have : a = 0 := by omega
            rw [this]; exact Nat.le_refl _
  | succ b ih =>
    by_cases e : a = b + 1
    · rw [e]; exact Nat.le_refl _
    · have := ih (by omega)
      simp only [accT, List.length_append]; omega
/-- What the writing of a row asks of its items. -/
def WGood (f : Nat → List UInt8) (B : Nat) (w : World) (g n : Nat) : Prop :=
  ∀ i, i < n → ∃ (kd x : Int) (s : ByteArray) (a1 : Option Addr) (l1 c1 : Nat) (a2 : Option Addr) (l2 c2 : Nat), ItemAt w g i kd x s a1 l1 c1 a2 l2 c2 ∧
    ∀ w' acc, Below B w w' → Bd B acc w' → acc.length + (f i).length ≤ 900000000 → Calls Tryz.prog 32 #[.pointer (some ⟨B, 0, none⟩), .agg #[.int .i64 kd, .int .i64 x, .string s, .slice a1 l1 c1, .slice a2 l2 c2]] w' fun e w'' => e = .returned (.tuple #[]) ∧ Bd B (acc ++ f i) w'' ∧ St B w' w''
theorem hid {p : Prop} (h : p) : Hid p := h
theorem box_new (w : World) (c : Array Value) (t : TypeId) : (w.alloc (.cells c t)).heap[w.heap.size]? = some (.cells c t) := heap_alloc_new w _
theorem cells_at {w : World} {k : Nat} {c : Array Value} {t : TypeId} {fz : Nat × Nat} (h : w.heap[k]? = some (.cells c t fz)) (i : Nat) : w.cell? ⟨k, i, none⟩ = c[i]? := by
  simp [World.cell?, h]
set_option maxHeartbeats 1000000 in
theorem items_5 (x : Int) (s : ByteArray) (a1 : Option Addr) (l1 c1 : Nat) (g M : Nat) (c2 : Nat) (f : Nat → List UInt8) (B : Nat) (acc : List UInt8) (w : World) (hBd : Bd B acc w) (hg : g < B) (hM : M ≤ 65536)  (hln : acc.length + (accT (fun _ => []) f M).length ≤ 900000000) (hIt : Hid (WGood f B w g M)) :
    Calls Tryz.prog 53 #[.pointer (some ⟨B, 0, none⟩), .agg #[.int .i64 5, .int .i64 x, .string s, .slice a1 l1 c1, .slice (some ⟨g, 0, none⟩) M c2]] w fun e w' => e = .returned (.tuple #[]) ∧ Bd B (acc ++ accT (fun _ => []) f M) w' ∧ St B w w' := by
  have hBw := hBd.lt
  have HB0 : Hid (Bd B acc (w.alloc (.cells #[.int .i64 5, .int .i64 x, .string s, .slice a1 l1 c1, .slice (some ⟨g, 0, none⟩) M c2] 25))) := hBd.alloc _
  have HS0 : Hid (St B w (w.alloc (.cells #[.int .i64 5, .int .i64 x, .string s, .slice a1 l1 c1, .slice (some ⟨g, 0, none⟩) M c2] 25))) := (St.refl B w).alloc (Nat.le_of_lt hBw) _
  have HX0 : Hid ((w.alloc (.cells #[.int .i64 5, .int .i64 x, .string s, .slice a1 l1 c1, .slice (some ⟨g, 0, none⟩) M c2] 25)).heap[w.heap.size]? = some (.cells #[.int .i64 5, .int .i64 x, .string s, .slice a1 l1 c1, .slice (some ⟨g, 0, none⟩) M c2] 25)) := box_new w _ _
  have HLN : Hid (acc.length + (accT (fun _ => []) f M).length ≤ 900000000) := hln
  clear hBd hln
  go_enter Tryz.func53, Tryz.ntmps53
  go_wp2_with fail
  generalize hw0 : w.alloc (.cells #[.int .i64 5, .int .i64 x, .string s, .slice a1 l1 c1, .slice (some ⟨g, 0, none⟩) M c2] 25) = w0 at *
  clear hw0
  go_loopw [9] (fun i wr => ∃ q : Nat, q ≤ M ∧ i = .int .i64 q ∧ Hid (Bd B (acc ++ accT (fun _ => []) f q) wr) ∧ Hid (St B w wr) ∧ Hid (wr.heap[w.heap.size]? = some (.cells #[.int .i64 5, .int .i64 x, .string s, .slice a1 l1 c1, .slice (some ⟨g, 0, none⟩) M c2] 25))) (fun i wr => M - (intOf i).toNat)
  case atStart => exact ⟨0, Nat.zero_le _, rfl, by unfold Hid; rw [accT, List.append_nil]; exact HB0.out, HS0, HX0⟩
  case round =>
    obtain ⟨q, hq, rfl, HQB, HQS, HQX⟩ := hrel
    have hsz := HQS.out.below.size
    by_cases hlt : q < M
    · obtain ⟨kd2, x2, s2, a12, l12, c12, a22, l22, c22, hia, hcall⟩ := hIt.out q hlt
      obtain ⟨z0, z1, z2, z3, z4⟩ := hia.keep (HQS.out.below.block g hg)
      have HC : Hid (∀ w' acc, Below B w w' → Bd B acc w' → acc.length + (f q).length ≤ 900000000 → Calls Tryz.prog 32 #[.pointer (some ⟨B, 0, none⟩), .agg #[.int .i64 kd2, .int .i64 x2, .string s2, .slice a12 l12 c12, .slice a22 l22 c22]] w' fun e w'' => e = .returned (.tuple #[]) ∧ Bd B (acc ++ f q) w'' ∧ St B w' w'') := hcall
      have HLQ : Hid (acc.length + ((accT (fun _ => []) f q).length + (sepT q).length + 0 + (f q).length) ≤ 900000000) := by
        have h1 : (accT (fun _ => []) f (q + 1)).length ≤ (accT (fun _ => []) f M).length := accT_len _ _ (by omega)
        have h2 := HLN.out
        have h3 : (accT (fun _ => []) f (q + 1)).length = (accT (fun _ => []) f q).length + (sepT q).length + 0 + (f q).length := by
          simp only [accT, List.length_append, List.length_nil]
        unfold Hid; omega
      clear hcall hia
      have HIB : Hid (Bd B (acc ++ accT (fun _ => []) f q) (wr.alloc (.cells #[.int .i64 kd2, .int .i64 x2, .string s2, .slice a12 l12 c12, .slice a22 l22 c22] 25))) := HQB.out.alloc _
      have HIS : Hid (St B w (wr.alloc (.cells #[.int .i64 kd2, .int .i64 x2, .string s2, .slice a12 l12 c12, .slice a22 l22 c22] 25))) := HQS.out.alloc (by omega) _
      have HIX : Hid ((wr.alloc (.cells #[.int .i64 kd2, .int .i64 x2, .string s2, .slice a12 l12 c12, .slice a22 l22 c22] 25)).heap[wr.heap.size]? = some (.cells #[.int .i64 kd2, .int .i64 x2, .string s2, .slice a12 l12 c12, .slice a22 l22 c22] 25)) := box_new wr _ _
      have HIV : Hid ((wr.alloc (.cells #[.int .i64 kd2, .int .i64 x2, .string s2, .slice a12 l12 c12, .slice a22 l22 c22] 25)).heap[w.heap.size]? = some (.cells #[.int .i64 5, .int .i64 x, .string s, .slice a1 l1 c1, .slice (some ⟨g, 0, none⟩) M c2] 25)) := by unfold Hid; exact (heap_alloc_old wr _ (Array.getElem?_eq_some_iff.1 HQX.out).1).trans HQX.out
      have hwr : w.heap.size < wr.heap.size := (Array.getElem?_eq_some_iff.1 HQX.out).1
      by_cases h0 : q = 0
      · have g0 : ¬ ((q : Int) > 0) := by omega
        have H0 : Hid (q = 0) := h0
        clear h0
        have v0 : wr.cell? ⟨w.heap.size, 0, none⟩ = some (.int .i64 5) := cells_at HQX.out 0
        go_wp2_with fail
        clear z0 z1 z2 z3 z4 v0
        generalize wr.alloc (.cells #[.int .i64 kd2, .int .i64 x2, .string s2, .slice a12 l12 c12, .slice a22 l22 c22] 25) = wx at *
        have HB := HIB
        have HS := HIS
        have HX := HIX
        have HV := HIV
        clear HIB HIS HIX HIV
        refine (HC.out wx _ HS.out.below HB.out (by have h := HLQ.out; rw [sepT, if_pos H0.out] at h; simp at h ⊢; omega)).mono ?_
        rintro e w4 ⟨rfl, hb4, hst4⟩
        have HB4 : Hid (Bd B (acc ++ accT (fun _ => []) f (q + 1)) w4) := by
          have h : Bd B _ w4 := hb4
          unfold Hid; rw [accT, sepT, if_pos H0.out]; simp at h ⊢; exact h
        have HS4 : Hid (St B w w4) := HS.out.trans hst4
        have HV4 := hid (hst4.cells HV.out (by omega) (by decide))
        clear hb4 hst4 HB HS HX HV
        go_wp2_with fail
        go_roundw
        case rel => exact ⟨q + 1, by omega, by go_num, HB4, HS4, HV4⟩
        case measure => simp [intOf]; omega
      · have g0 : (q : Int) > 0 := by omega
        have H0 : Hid (¬ q = 0) := h0
        clear h0
        go_wp2_with fail
        clear z0 z1 z2 z3 z4
        generalize wr.alloc (.cells #[.int .i64 kd2, .int .i64 x2, .string s2, .slice a12 l12 c12, .slice a22 l22 c22] 25) = wy at *
        refine (wB B _ 44 wy HIB.out (by have h := HLQ.out; simp at h ⊢; omega)).mono ?_
        rintro e wx ⟨rfl, hb1, hst1⟩
        have HB : Hid (Bd B _ wx) := hb1
        have HS : Hid (St B w wx) := HIS.out.trans hst1
        have HX := hid (hst1.cells HIX.out (by omega) (by decide))
        have HV := hid (hst1.cells HIV.out (by omega) (by decide))
        clear hb1 hst1 HIB HIS HIX HIV
        have v0 : wx.cell? ⟨w.heap.size, 0, none⟩ = some (.int .i64 5) := cells_at HV.out 0
        have u0 : wx.cell? ⟨wr.heap.size, 0, none⟩ = some (.int .i64 kd2) := cells_at HX.out 0
        have u1 : wx.cell? ⟨wr.heap.size, 1, none⟩ = some (.int .i64 x2) := cells_at HX.out 1
        have u2 : wx.cell? ⟨wr.heap.size, 2, none⟩ = some (.string s2) := cells_at HX.out 2
        have u3 : wx.cell? ⟨wr.heap.size, 3, none⟩ = some (.slice a12 l12 c12) := cells_at HX.out 3
        have u4 : wx.cell? ⟨wr.heap.size, 4, none⟩ = some (.slice a22 l22 c22) := cells_at HX.out 4
        go_wp2_with fail
        clear u0 u1 u2 u3 u4
        clear v0
        refine (HC.out wx _ HS.out.below HB.out (by have h := HLQ.out; rw [sepT, if_neg H0.out] at h; simp at h ⊢; omega)).mono ?_
        rintro e w4 ⟨rfl, hb4, hst4⟩
        have HB4 : Hid (Bd B (acc ++ accT (fun _ => []) f (q + 1)) w4) := by
          have h : Bd B _ w4 := hb4
          unfold Hid; rw [accT, sepT, if_neg H0.out]; simp at h ⊢; exact h
        have HS4 : Hid (St B w w4) := HS.out.trans hst4
        have HV4 := hid (hst4.cells HV.out (by omega) (by decide))
        clear hb4 hst4 HB HS HX HV
        go_wp2_with fail
        go_roundw
        case rel => exact ⟨q + 1, by omega, by go_num, HB4, HS4, HV4⟩
        case measure => simp [intOf]; omega
    · have hqe : q = M := by omega
      subst hqe
      clear hlt hq
      go_wp2_with fail
      go_end0
      exact ⟨rfl, HQB.out, HQS.out⟩
set_option maxHeartbeats 1000000 in
theorem items_6 (x : Int) (s : ByteArray) (gn c1 : Nat) (ns : List ByteArray) (g M : Nat) (c2 : Nat) (f : Nat → List UInt8) (B : Nat) (acc : List UInt8) (w : World) (hBd : Bd B acc w) (hg : g < B) (hM : M ≤ 65536) (hgn : gn < B) (hNc : Hid (∀ i, i < M → w.cell? ⟨gn, i, none⟩ = some (.string (nth ns i)) ∧ okT (nth ns i))) (hln : acc.length + (accT (fun i => qT (nth ns i) ++ [58]) f M).length ≤ 900000000) (hIt : Hid (WGood f B w g M)) :
    Calls Tryz.prog 53 #[.pointer (some ⟨B, 0, none⟩), .agg #[.int .i64 6, .int .i64 x, .string s, .slice (some ⟨gn, 0, none⟩) M c1, .slice (some ⟨g, 0, none⟩) M c2]] w fun e w' => e = .returned (.tuple #[]) ∧ Bd B (acc ++ accT (fun i => qT (nth ns i) ++ [58]) f M) w' ∧ St B w w' := by
  have hBw := hBd.lt
  have HB0 : Hid (Bd B acc (w.alloc (.cells #[.int .i64 6, .int .i64 x, .string s, .slice (some ⟨gn, 0, none⟩) M c1, .slice (some ⟨g, 0, none⟩) M c2] 25))) := hBd.alloc _
  have HS0 : Hid (St B w (w.alloc (.cells #[.int .i64 6, .int .i64 x, .string s, .slice (some ⟨gn, 0, none⟩) M c1, .slice (some ⟨g, 0, none⟩) M c2] 25))) := (St.refl B w).alloc (Nat.le_of_lt hBw) _
  have HX0 : Hid ((w.alloc (.cells #[.int .i64 6, .int .i64 x, .string s, .slice (some ⟨gn, 0, none⟩) M c1, .slice (some ⟨g, 0, none⟩) M c2] 25)).heap[w.heap.size]? = some (.cells #[.int .i64 6, .int .i64 x, .string s, .slice (some ⟨gn, 0, none⟩) M c1, .slice (some ⟨g, 0, none⟩) M c2] 25)) := box_new w _ _
  have HLN : Hid (acc.length + (accT (fun i => qT (nth ns i) ++ [58]) f M).length ≤ 900000000) := hln
  clear hBd hln
  go_enter Tryz.func53, Tryz.ntmps53
  go_wp2_with fail
  generalize hw0 : w.alloc (.cells #[.int .i64 6, .int .i64 x, .string s, .slice (some ⟨gn, 0, none⟩) M c1, .slice (some ⟨g, 0, none⟩) M c2] 25) = w0 at *
  clear hw0
  go_loopw [9] (fun i wr => ∃ q : Nat, q ≤ M ∧ i = .int .i64 q ∧ Hid (Bd B (acc ++ accT (fun i => qT (nth ns i) ++ [58]) f q) wr) ∧ Hid (St B w wr) ∧ Hid (wr.heap[w.heap.size]? = some (.cells #[.int .i64 6, .int .i64 x, .string s, .slice (some ⟨gn, 0, none⟩) M c1, .slice (some ⟨g, 0, none⟩) M c2] 25))) (fun i wr => M - (intOf i).toNat)
  case atStart => exact ⟨0, Nat.zero_le _, rfl, by unfold Hid; rw [accT, List.append_nil]; exact HB0.out, HS0, HX0⟩
  case round =>
    obtain ⟨q, hq, rfl, HQB, HQS, HQX⟩ := hrel
    have hsz := HQS.out.below.size
    by_cases hlt : q < M
    · obtain ⟨kd2, x2, s2, a12, l12, c12, a22, l22, c22, hia, hcall⟩ := hIt.out q hlt
      obtain ⟨z0, z1, z2, z3, z4⟩ := hia.keep (HQS.out.below.block g hg)
      have HC : Hid (∀ w' acc, Below B w w' → Bd B acc w' → acc.length + (f q).length ≤ 900000000 → Calls Tryz.prog 32 #[.pointer (some ⟨B, 0, none⟩), .agg #[.int .i64 kd2, .int .i64 x2, .string s2, .slice a12 l12 c12, .slice a22 l22 c22]] w' fun e w'' => e = .returned (.tuple #[]) ∧ Bd B (acc ++ f q) w'' ∧ St B w' w'') := hcall
      have HLQ : Hid (acc.length + ((accT (fun i => qT (nth ns i) ++ [58]) f q).length + (sepT q).length + ((qT (nth ns q)).length + 1) + (f q).length) ≤ 900000000) := by
        have h1 : (accT (fun i => qT (nth ns i) ++ [58]) f (q + 1)).length ≤ (accT (fun i => qT (nth ns i) ++ [58]) f M).length := accT_len _ _ (by omega)
        have h2 := HLN.out
        have h3 : (accT (fun i => qT (nth ns i) ++ [58]) f (q + 1)).length = (accT (fun i => qT (nth ns i) ++ [58]) f q).length + (sepT q).length + ((qT (nth ns q)).length + 1) + (f q).length := by
          simp only [accT, List.length_append, List.length_cons, List.length_nil]
        unfold Hid; omega
      clear hcall hia
      have HIB : Hid (Bd B (acc ++ accT (fun i => qT (nth ns i) ++ [58]) f q) (wr.alloc (.cells #[.int .i64 kd2, .int .i64 x2, .string s2, .slice a12 l12 c12, .slice a22 l22 c22] 25))) := HQB.out.alloc _
      have HIS : Hid (St B w (wr.alloc (.cells #[.int .i64 kd2, .int .i64 x2, .string s2, .slice a12 l12 c12, .slice a22 l22 c22] 25))) := HQS.out.alloc (by omega) _
      have HIX : Hid ((wr.alloc (.cells #[.int .i64 kd2, .int .i64 x2, .string s2, .slice a12 l12 c12, .slice a22 l22 c22] 25)).heap[wr.heap.size]? = some (.cells #[.int .i64 kd2, .int .i64 x2, .string s2, .slice a12 l12 c12, .slice a22 l22 c22] 25)) := box_new wr _ _
      have HIV : Hid ((wr.alloc (.cells #[.int .i64 kd2, .int .i64 x2, .string s2, .slice a12 l12 c12, .slice a22 l22 c22] 25)).heap[w.heap.size]? = some (.cells #[.int .i64 6, .int .i64 x, .string s, .slice (some ⟨gn, 0, none⟩) M c1, .slice (some ⟨g, 0, none⟩) M c2] 25)) := by unfold Hid; exact (heap_alloc_old wr _ (Array.getElem?_eq_some_iff.1 HQX.out).1).trans HQX.out
      have hwr : w.heap.size < wr.heap.size := (Array.getElem?_eq_some_iff.1 HQX.out).1
      obtain ⟨hc, ho⟩ := hNc.out q hlt
      have HO : Hid (okT (nth ns q)) := ho
      have hgr : gn < wr.heap.size := by omega
      have HNB : Hid (w.cell? ⟨gn, q, none⟩ = some (.string (nth ns q))) := hc
      clear hc ho
      by_cases h0 : q = 0
      · have g0 : ¬ ((q : Int) > 0) := by omega
        have H0 : Hid (q = 0) := h0
        clear h0
        have v0 : wr.cell? ⟨w.heap.size, 0, none⟩ = some (.int .i64 6) := cells_at HQX.out 0
        have v3 : wr.cell? ⟨w.heap.size, 3, none⟩ = some (.slice (some ⟨gn, 0, none⟩) M c1) := cells_at HQX.out 3
        have v5 : wr.cell? ⟨gn, q, none⟩ = some (.string (nth ns q)) := (World.cell?_of_block (w := w) (a := ⟨gn, q, none⟩) (HQS.out.below.block gn hgn)).trans HNB.out
        go_wp2_with fail
        clear v0 v3 v5
        clear z0 z1 z2 z3 z4
        generalize wr.alloc (.cells #[.int .i64 kd2, .int .i64 x2, .string s2, .slice a12 l12 c12, .slice a22 l22 c22] 25) = wx at *
        have HB := HIB
        have HS := HIS
        have HX := HIX
        have HV := HIV
        clear HIB HIS HIX HIV
        refine (wq_any B _ (nth ns q) HO.out wx HB.out (by have h := HLQ.out; rw [sepT, if_pos H0.out] at h; simp at h ⊢; omega)).mono ?_
        rintro e w2 ⟨rfl, hb2, hst2⟩
        have HB2 : Hid (Bd B _ w2) := hb2
        have HS2 : Hid (St B w w2) := HS.out.trans hst2
        have HX2 := hid (hst2.cells HX.out (by omega) (by decide))
        have HV2 := hid (hst2.cells HV.out (by omega) (by decide))
        clear hb2 hst2 HB HS HX HV
        go_wp2_with fail
        refine (wB B _ 58 w2 HB2.out (by have h := HLQ.out; rw [sepT, if_pos H0.out] at h; simp at h ⊢; omega)).mono ?_
        rintro e w3 ⟨rfl, hb3, hst3⟩
        have HB : Hid (Bd B _ w3) := hb3
        have HS : Hid (St B w w3) := HS2.out.trans hst3
        have HX := hid (hst3.cells HX2.out (by omega) (by decide))
        have HV := hid (hst3.cells HV2.out (by omega) (by decide))
        clear hb3 hst3 HB2 HS2 HX2 HV2
        have u0 : w3.cell? ⟨wr.heap.size, 0, none⟩ = some (.int .i64 kd2) := cells_at HX.out 0
        have u1 : w3.cell? ⟨wr.heap.size, 1, none⟩ = some (.int .i64 x2) := cells_at HX.out 1
        have u2 : w3.cell? ⟨wr.heap.size, 2, none⟩ = some (.string s2) := cells_at HX.out 2
        have u3 : w3.cell? ⟨wr.heap.size, 3, none⟩ = some (.slice a12 l12 c12) := cells_at HX.out 3
        have u4 : w3.cell? ⟨wr.heap.size, 4, none⟩ = some (.slice a22 l22 c22) := cells_at HX.out 4
        go_wp2_with fail
        clear u0 u1 u2 u3 u4
        refine (HC.out w3 _ HS.out.below HB.out (by have h := HLQ.out; rw [sepT, if_pos H0.out] at h; simp at h ⊢; omega)).mono ?_
        rintro e w4 ⟨rfl, hb4, hst4⟩
        have HB4 : Hid (Bd B (acc ++ accT (fun i => qT (nth ns i) ++ [58]) f (q + 1)) w4) := by
          have h : Bd B _ w4 := hb4
          unfold Hid; rw [accT, sepT, if_pos H0.out]; simp at h ⊢; exact h
        have HS4 : Hid (St B w w4) := HS.out.trans hst4
        have HV4 := hid (hst4.cells HV.out (by omega) (by decide))
        clear hb4 hst4 HB HS HX HV
        go_wp2_with fail
        go_roundw
        case rel => exact ⟨q + 1, by omega, by go_num, HB4, HS4, HV4⟩
        case measure => simp [intOf]; omega
      · have g0 : (q : Int) > 0 := by omega
        have H0 : Hid (¬ q = 0) := h0
        clear h0
        go_wp2_with fail
        clear z0 z1 z2 z3 z4
        generalize wr.alloc (.cells #[.int .i64 kd2, .int .i64 x2, .string s2, .slice a12 l12 c12, .slice a22 l22 c22] 25) = wy at *
        refine (wB B _ 44 wy HIB.out (by have h := HLQ.out; simp at h ⊢; omega)).mono ?_
        rintro e wx ⟨rfl, hb1, hst1⟩
        have HB : Hid (Bd B _ wx) := hb1
        have HS : Hid (St B w wx) := HIS.out.trans hst1
        have HX := hid (hst1.cells HIX.out (by omega) (by decide))
        have HV := hid (hst1.cells HIV.out (by omega) (by decide))
        clear hb1 hst1 HIB HIS HIX HIV
        have v0 : wx.cell? ⟨w.heap.size, 0, none⟩ = some (.int .i64 6) := cells_at HV.out 0
        have v3 : wx.cell? ⟨w.heap.size, 3, none⟩ = some (.slice (some ⟨gn, 0, none⟩) M c1) := cells_at HV.out 3
        have v5 : wx.cell? ⟨gn, q, none⟩ = some (.string (nth ns q)) := (World.cell?_of_block (w := w) (a := ⟨gn, q, none⟩) (HS.out.below.block gn hgn)).trans HNB.out
        go_wp2_with fail
        clear v0 v3 v5
        refine (wq_any B _ (nth ns q) HO.out wx HB.out (by have h := HLQ.out; rw [sepT, if_neg H0.out] at h; simp at h ⊢; omega)).mono ?_
        rintro e w2 ⟨rfl, hb2, hst2⟩
        have HB2 : Hid (Bd B _ w2) := hb2
        have HS2 : Hid (St B w w2) := HS.out.trans hst2
        have HX2 := hid (hst2.cells HX.out (by omega) (by decide))
        have HV2 := hid (hst2.cells HV.out (by omega) (by decide))
        clear hb2 hst2 HB HS HX HV
        go_wp2_with fail
        refine (wB B _ 58 w2 HB2.out (by have h := HLQ.out; rw [sepT, if_neg H0.out] at h; simp at h ⊢; omega)).mono ?_
        rintro e w3 ⟨rfl, hb3, hst3⟩
        have HB : Hid (Bd B _ w3) := hb3
        have HS : Hid (St B w w3) := HS2.out.trans hst3
        have HX := hid (hst3.cells HX2.out (by omega) (by decide))
        have HV := hid (hst3.cells HV2.out (by omega) (by decide))
        clear hb3 hst3 HB2 HS2 HX2 HV2
        have u0 : w3.cell? ⟨wr.heap.size, 0, none⟩ = some (.int .i64 kd2) := cells_at HX.out 0
        have u1 : w3.cell? ⟨wr.heap.size, 1, none⟩ = some (.int .i64 x2) := cells_at HX.out 1
        have u2 : w3.cell? ⟨wr.heap.size, 2, none⟩ = some (.string s2) := cells_at HX.out 2
        have u3 : w3.cell? ⟨wr.heap.size, 3, none⟩ = some (.slice a12 l12 c12) := cells_at HX.out 3
        have u4 : w3.cell? ⟨wr.heap.size, 4, none⟩ = some (.slice a22 l22 c22) := cells_at HX.out 4
        go_wp2_with fail
        clear u0 u1 u2 u3 u4
        refine (HC.out w3 _ HS.out.below HB.out (by have h := HLQ.out; rw [sepT, if_neg H0.out] at h; simp at h ⊢; omega)).mono ?_
        rintro e w4 ⟨rfl, hb4, hst4⟩
        have HB4 : Hid (Bd B (acc ++ accT (fun i => qT (nth ns i) ++ [58]) f (q + 1)) w4) := by
          have h : Bd B _ w4 := hb4
          unfold Hid; rw [accT, sepT, if_neg H0.out]; simp at h ⊢; exact h
        have HS4 : Hid (St B w w4) := HS.out.trans hst4
        have HV4 := hid (hst4.cells HV.out (by omega) (by decide))
        clear hb4 hst4 HB HS HX HV
        go_wp2_with fail
        go_roundw
        case rel => exact ⟨q + 1, by omega, by go_num, HB4, HS4, HV4⟩
        case measure => simp [intOf]; omega
    · have hqe : q = M := by omega
      subst hqe
      clear hlt hq
      go_wp2_with fail
      go_end0
      exact ⟨rfl, HQB.out, HQS.out⟩
set_option maxHeartbeats 1000000 in
theorem items_0 (kd x : Int) (s : ByteArray) (a1 : Option Addr) (l1 c1 : Nat) (a2 : Option Addr) (c2 : Nat) (B : Nat) (acc : List UInt8) (w : World) (hBd : Bd B acc w) :
    Calls Tryz.prog 53 #[.pointer (some ⟨B, 0, none⟩), .agg #[.int .i64 kd, .int .i64 x, .string s, .slice a1 l1 c1, .slice a2 0 c2]] w fun e w' => e = .returned (.tuple #[]) ∧ Bd B acc w' ∧ St B w w' := by
  have hBw := hBd.lt
  have HB0 : ∀ o, Bd B acc (w.alloc o) := fun o => hBd.alloc _
  have HS0 : ∀ o, St B w (w.alloc o) := fun o => (St.refl B w).alloc (Nat.le_of_lt hBw) _
  clear hBd
  go_enter Tryz.func53, Tryz.ntmps53
  go_wp2_with fail
  refine wp_loop_rounds 1 ?_
  rw [rounds_succ]
  go_wp2_with fail
  go_end0
  exact ⟨rfl, HB0 _, HS0 _⟩
set_option maxHeartbeats 1000000 in
theorem write_flat (k : Int) (T : ByteArray) (hk : k = 0 ∨ k = 1 ∨ k = 2) (hT : ∀ w, Calls Tryz.prog 47 #[.int .i64 k] w fun e w' => e = .returned (.string T) ∧ w' = w) (hTs : T.size ≤ 1000000000) (x : Int) (s : ByteArray) (v3 v4 : Value) (h3 : v3 = .slice none 0 0) (h4 : v4 = .slice none 0 0) (B : Nat) (acc : List UInt8) (w : World) (hBd : Bd B acc w) (hl : acc.length ≤ 1000000000) :
    Calls Tryz.prog 32 #[.pointer (some ⟨B, 0, none⟩), .agg #[.int .i64 k, .int .i64 x, .string s, v3, v4]] w fun e w' => e = .returned (.tuple #[]) ∧ Bd B (acc ++ T.data.toList) w' ∧ St B w w' := by
  have hBw := hBd.lt
  have HB0 : ∀ o, Bd B acc (w.alloc o) := fun o => hBd.alloc _
  have HS0 : ∀ o, St B w (w.alloc o) := fun o => (St.refl B w).alloc (Nat.le_of_lt hBw) _
  clear hBd
  subst h3 h4
  rcases hk with rfl | rfl | rfl
  all_goals
    go_enter Tryz.func32, Tryz.ntmps32
    go_wp2_with fail
    refine (hT _).mono ?_
    rintro e w1 ⟨rfl, rfl⟩
    go_wp2_with fail
    refine (wS B acc T _ (HB0 _) hl hTs).mono ?_
    rintro e w2 ⟨rfl, hb2, hs2⟩
    have HB2 : Hid (Bd B (acc ++ T.data.toList) w2) := hb2
    have HS2 : Hid (St B w w2) := (HS0 _).trans hs2
    clear hb2 hs2
    go_wp2_with fail
    go_end0
    exact ⟨rfl, HB2.out, HS2.out⟩
set_option maxHeartbeats 1000000 in
theorem write_int (x : Int) (h0 : -9223372036854775808 ≤ x) (h1 : x ≤ 9223372036854775807) (s : ByteArray) (B : Nat) (acc : List UInt8) (w : World) (hE : EnvP w) (hBd : Bd B acc w) (hl : acc.length + (Lib.itoa x).length ≤ 900000000) :
    Calls Tryz.prog 32 #[.pointer (some ⟨B, 0, none⟩), .agg #[.int .i64 3, .int .i64 x, .string s, .slice none 0 0, .slice none 0 0]] w fun e w' => e = .returned (.tuple #[]) ∧ Bd B (acc ++ Lib.itoa x) w' ∧ St B w w' := by
  have hBw := hBd.lt
  have HB0 : ∀ o, Bd B acc (w.alloc o) := fun o => hBd.alloc _
  have HS0 : ∀ o, St B w (w.alloc o) := fun o => (St.refl B w).alloc (Nat.le_of_lt hBw) _
  have hT : ∀ o, Lib.TabIs Tryz.prog (w.alloc o) "internal/strconv.uint64pow10" .u64 Lib.pow10Tab := fun o => tab_below hE.tab ((Below.refl w.heap.size w).alloc (Nat.le_refl _) _) hE.big
  clear hBd
  go_enter Tryz.func32, Tryz.ntmps32
  go_wp2_with fail
  refine (fmt_any x h0 h1 _ (hT _)).mono ?_
  rintro e w1 ⟨rfl, hb1⟩
  have HB1 : Hid (Bd B acc w1) := (HB0 _).keep hb1
  have HS1 : Hid (St B w w1) := (HS0 _).trans (St.of hb1 (by simp; omega))
  clear hb1
  go_wp2_with fail
  refine (wS B acc _ w1 HB1.out (by omega) (by show (Lib.itoa x).toArray.size ≤ _; rw [List.size_toArray]; omega)).mono ?_
  rintro e w2 ⟨rfl, hb2, hs2⟩
  have HB2 : Hid (Bd B (acc ++ Lib.itoa x) w2) := hb2
  have HS2 : Hid (St B w w2) := HS1.out.trans hs2
  clear hb2 hs2
  go_wp2_with fail
  go_end0
  exact ⟨rfl, HB2.out, HS2.out⟩
set_option maxHeartbeats 1000000 in
theorem write_text (x : Int) (s : ByteArray) (hs : okT s) (B : Nat) (acc : List UInt8) (w : World) (hBd : Bd B acc w) (hl : acc.length ≤ 900000000) :
    Calls Tryz.prog 32 #[.pointer (some ⟨B, 0, none⟩), .agg #[.int .i64 4, .int .i64 x, .string s, .slice none 0 0, .slice none 0 0]] w fun e w' => e = .returned (.tuple #[]) ∧ Bd B (acc ++ qT s) w' ∧ St B w w' := by
  have hBw := hBd.lt
  have HB0 : ∀ o, Bd B acc (w.alloc o) := fun o => hBd.alloc _
  have HS0 : ∀ o, St B w (w.alloc o) := fun o => (St.refl B w).alloc (Nat.le_of_lt hBw) _
  clear hBd
  go_enter Tryz.func32, Tryz.ntmps32
  go_wp2_with fail
  refine (wq_any B acc s hs _ (HB0 _) hl).mono ?_
  rintro e w2 ⟨rfl, hb2, hs2⟩
  have HB2 : Hid (Bd B (acc ++ qT s) w2) := hb2
  have HS2 : Hid (St B w w2) := (HS0 _).trans hs2
  clear hb2 hs2
  go_wp2_with fail
  go_end0
  exact ⟨rfl, HB2.out, HS2.out⟩
set_option maxHeartbeats 1000000 in
theorem write_nest (k : Int) (o c : UInt8) (hk : k = 5 ∧ o = 91 ∧ c = 93 ∨ k = 6 ∧ o = 123 ∧ c = 125) (x : Int) (s : ByteArray) (a1 : Option Addr) (l1 c1 : Nat) (a2 : Option Addr) (l2 c2 : Nat) (t : List UInt8) (B : Nat) (acc : List UInt8) (w : World) (hBd : Bd B acc w) (hl : acc.length + ([o] ++ t ++ [c]).length ≤ 900000000)
    (hN : Hid (∀ w', St B w w' → Bd B (acc ++ [o]) w' → Calls Tryz.prog 53 #[.pointer (some ⟨B, 0, none⟩), .agg #[.int .i64 k, .int .i64 x, .string s, .slice a1 l1 c1, .slice a2 l2 c2]] w' fun e w'' => e = .returned (.tuple #[]) ∧ Bd B (acc ++ [o] ++ t) w'' ∧ St B w' w'')) :
    Calls Tryz.prog 32 #[.pointer (some ⟨B, 0, none⟩), .agg #[.int .i64 k, .int .i64 x, .string s, .slice a1 l1 c1, .slice a2 l2 c2]] w fun e w' => e = .returned (.tuple #[]) ∧ Bd B (acc ++ ([o] ++ t ++ [c])) w' ∧ St B w w' := by
  have hBw := hBd.lt
  have HB0 : Hid (∀ o, Bd B acc (w.alloc o)) := fun o => hBd.alloc _
  have HS0 : Hid (∀ o, St B w (w.alloc o)) := fun o => (St.refl B w).alloc (Nat.le_of_lt hBw) _
  have HL : Hid (acc.length + (t.length + 2) ≤ 900000000) := by simp at hl; unfold Hid; omega
  clear hBd hl
  rcases hk with ⟨rfl, rfl, rfl⟩ | ⟨rfl, rfl, rfl⟩
  · go_enter Tryz.func32, Tryz.ntmps32
    go_wp2_with fail
    refine (wB B acc 91 _ (HB0.out _) (by have := HL.out; omega)).mono ?_
    rintro e w1 ⟨rfl, hb1, hs1⟩
    have HB1 : Hid (Bd B _ w1) := hb1
    have HS1 : Hid (St B w w1) := (HS0.out _).trans hs1
    have bx := hs1.cells (box_new w _ _) (by omega) (by decide)
    have u0 := cells_at bx 0
    have u1 := cells_at bx 1
    have u2 := cells_at bx 2
    have u3 := cells_at bx 3
    have u4 := cells_at bx 4
    simp at u0 u1 u2 u3 u4
    clear bx
    clear hb1 hs1
    go_wp2_with fail
    clear u0 u1 u2 u3 u4
    refine (hN.out w1 HS1.out HB1.out).mono ?_
    rintro e w2 ⟨rfl, hb2, hs2⟩
    have HB2 : Hid (Bd B _ w2) := hb2
    have HS2 : Hid (St B w w2) := HS1.out.trans hs2
    clear hb2 hs2
    go_wp2_with fail
    refine (wB B _ 93 w2 HB2.out (by have := HL.out; simp; omega)).mono ?_
    rintro e w3 ⟨rfl, hb3, hs3⟩
    have HB3 : Hid (Bd B _ w3) := hb3
    have HS3 : Hid (St B w w3) := HS2.out.trans hs3
    clear hb3 hs3
    go_wp2_with fail
    go_end0
    refine ⟨rfl, ?_, HS3.out⟩
    have h := HB3.out
    rw [List.append_assoc, List.append_assoc] at h
    exact h
  · go_enter Tryz.func32, Tryz.ntmps32
    go_wp2_with fail
    refine (wB B acc 123 _ (HB0.out _) (by have := HL.out; omega)).mono ?_
    rintro e w1 ⟨rfl, hb1, hs1⟩
    have HB1 : Hid (Bd B _ w1) := hb1
    have HS1 : Hid (St B w w1) := (HS0.out _).trans hs1
    have bx := hs1.cells (box_new w _ _) (by omega) (by decide)
    have u0 := cells_at bx 0
    have u1 := cells_at bx 1
    have u2 := cells_at bx 2
    have u3 := cells_at bx 3
    have u4 := cells_at bx 4
    simp at u0 u1 u2 u3 u4
    clear bx
    clear hb1 hs1
    go_wp2_with fail
    clear u0 u1 u2 u3 u4
    refine (hN.out w1 HS1.out HB1.out).mono ?_
    rintro e w2 ⟨rfl, hb2, hs2⟩
    have HB2 : Hid (Bd B _ w2) := hb2
    have HS2 : Hid (St B w w2) := HS1.out.trans hs2
    clear hb2 hs2
    go_wp2_with fail
    refine (wB B _ 125 w2 HB2.out (by have := HL.out; simp; omega)).mono ?_
    rintro e w3 ⟨rfl, hb3, hs3⟩
    have HB3 : Hid (Bd B _ w3) := hb3
    have HS3 : Hid (St B w w3) := HS2.out.trans hs3
    clear hb3 hs3
    go_wp2_with fail
    go_end0
    refine ⟨rfl, ?_, HS3.out⟩
    have h := HB3.out
    rw [List.append_assoc, List.append_assoc] at h
    exact h

mutual
def textJ : J → List UInt8
  | .null => [110, 117, 108, 108]
  | .fls => [102, 97, 108, 115, 101]
  | .tru => [116, 114, 117, 101]
  | .int x => Lib.itoa x
  | .text s => qT s
  | .list l => [91] ++ accT (fun _ => []) (fun i => (textsL l).getD i []) l.length ++ [93]
  | .obj ns l => [123] ++ accT (fun i => qT (nth ns i) ++ [58]) (fun i => (textsL l).getD i []) l.length ++ [125]
def textsL : List J → List (List UInt8)
  | [] => []
  | j :: js => textJ j :: textsL js
end
theorem textsL_get : (l : List J) → ∀ i (h : i < l.length), (textsL l).getD i [] = textJ l[i]
  | [], i, h => absurd h (by simp)
  | j :: js, 0, h => by rw [textsL]; rfl
  | j :: js, i + 1, h => by
    rw [textsL]
    exact textsL_get js i (by simpa using h)
theorem textJ_list (l : List J) : textJ (.list l) = [91] ++ accT (fun _ => []) (fun i => (textsL l).getD i []) l.length ++ [93] := by rw [textJ]
theorem textJ_obj (ns : List ByteArray) (l : List J) : textJ (.obj ns l) = [123] ++ accT (fun i => qT (nth ns i) ++ [58]) (fun i => (textsL l).getD i []) l.length ++ [125] := by rw [textJ]
def WrOk (j : J) : Prop := ∀ (lo hi : Nat) (w : World) (B : Nat) (acc : List UInt8) (kd x : Int) (s : ByteArray) (a1 : Option Addr) (l1 c1 : Nat) (a2 : Option Addr) (l2 c2 : Nat), Rep w lo hi j (five kd x s (.slice a1 l1 c1) (.slice a2 l2 c2)) → hi ≤ B → 8 ≤ B → smJ j → EnvP w → Bd B acc w → acc.length + (textJ j).length ≤ 900000000 →
  Calls Tryz.prog 32 #[.pointer (some ⟨B, 0, none⟩), .agg #[.int .i64 kd, .int .i64 x, .string s, .slice a1 l1 c1, .slice a2 l2 c2]] w fun e w' => e = .returned (.tuple #[]) ∧ Bd B (acc ++ textJ j) w' ∧ St B w w'
theorem items_write {w : World} {lo hi lo0 g cap B : Nat} {obs : List Nat} {l : List J} {xs : List Value} (hown : w.ownsRow lo0 25 5 (.slice (some ⟨g, 0, none⟩) l.length cap) l.length xs) (hrep : RepL w lo hi obs l xs) (hhi : hi ≤ B) (h8 : 8 ≤ B) (hsm : smL l) (hE : EnvP w) (hIH : ∀ j ∈ l, WrOk j) :
    WGood (fun i => (textsL l).getD i []) B w g l.length := by
  intro i hi'
  obtain ⟨lo', hi2, e1, e2, e3, e4⟩ := RepL.get l xs hrep i hi'
  obtain ⟨kd, x, s, a1, l1, c1, a2, l2, c2, hf⟩ := e4.form
  refine ⟨kd, x, s, a1, l1, c1, a2, l2, c2, item_at hown hi' hf, fun w' acc hb hbd hl => ?_⟩
  rw [hf] at e4
  have hr' := Rep.keep l[i] _ e4 (w' := w') (fun k ka kb => hb.block k (by omega))
  have hm := List.getElem_mem hi'
  have hg : (textsL l).getD i [] = textJ l[i] := textsL_get l i hi'
  simp only [hg] at hl ⊢
  exact hIH l[i] hm lo' hi2 w' B acc kd x s a1 l1 c1 a2 l2 c2 hr' (by omega) h8 (smL.get l hsm _ hm) (hE.below hb h8) hbd hl
theorem write_all : (j : J) → WrOk j
  | .null => fun lo hi w B acc kd x s a1 l1 c1 a2 l2 c2 hr hh h8 hsm hE hBd hln => by
    obtain ⟨rfl, rfl, rfl, e1, e2⟩ := five_inj (show five kd x s _ _ = five 0 0 noS nilS nilS from hr)
    exact write_flat 0 ⟨#[110, 117, 108, 108]⟩ (by decide) const_null (by decide) 0 noS _ _ e1 e2 B acc w hBd (by omega)
  | .fls => fun lo hi w B acc kd x s a1 l1 c1 a2 l2 c2 hr hh h8 hsm hE hBd hln => by
    obtain ⟨rfl, rfl, rfl, e1, e2⟩ := five_inj (show five kd x s _ _ = five 1 0 noS nilS nilS from hr)
    exact write_flat 1 ⟨#[102, 97, 108, 115, 101]⟩ (by decide) const_false (by decide) 0 noS _ _ e1 e2 B acc w hBd (by omega)
  | .tru => fun lo hi w B acc kd x s a1 l1 c1 a2 l2 c2 hr hh h8 hsm hE hBd hln => by
    obtain ⟨rfl, rfl, rfl, e1, e2⟩ := five_inj (show five kd x s _ _ = five 2 0 noS nilS nilS from hr)
    exact write_flat 2 ⟨#[116, 114, 117, 101]⟩ (by decide) const_true (by decide) 0 noS _ _ e1 e2 B acc w hBd (by omega)
  | .int y => fun lo hi w B acc kd x s a1 l1 c1 a2 l2 c2 hr hh h8 hsm hE hBd hln => by
    obtain ⟨rfl, rfl, rfl, e1, e2⟩ := five_inj (show five kd x s _ _ = five 3 y noS nilS nilS from hr)
    rw [e1, e2]
    have hsm' : -9223372036854775808 ≤ x ∧ x ≤ 9223372036854775807 := hsm
    have hln' : acc.length + (Lib.itoa x).length ≤ 900000000 := hln
    exact write_int x hsm'.1 hsm'.2 noS B acc w hE hBd hln'
  | .text t => fun lo hi w B acc kd x s a1 l1 c1 a2 l2 c2 hr hh h8 hsm hE hBd hln => by
    obtain ⟨rfl, rfl, rfl, e1, e2⟩ := five_inj (show five kd x s _ _ = five 4 0 t nilS nilS from hr)
    rw [e1, e2]
    exact write_text 0 s hsm B acc w hBd (by omega)
  | .list l => fun lo hi w B acc kd x s a1 l1 c1 a2 l2 c2 hr hh h8 hsm hE hBd hln => by
    unfold Rep at hr
    obtain ⟨it, xs, h1, h2, h3, h4⟩ := hr
    obtain ⟨rfl, rfl, rfl, e1, rfl⟩ := five_inj h1
    simp only [nilS, Value.slice.injEq] at e1
    obtain ⟨rfl, rfl, rfl⟩ := e1
    unfold smJ at hsm
    obtain ⟨rfl, hn⟩ := own_form h2
    have hIH : ∀ j ∈ l, WrOk j := fun j hj => write_all j
    rw [textJ_list] at hln ⊢
    refine write_nest 5 91 93 (Or.inl ⟨rfl, rfl, rfl⟩) 0 noS none 0 0 a2 l.length c2 _ B acc w hBd hln (fun w' hst hbd => ?_)
    have hb := hst.below
    rcases hn with h0 | ⟨g, rfl, hg⟩
    · rw [h0]
      have := items_0 5 0 noS none 0 0 a2 c2 B (acc ++ [91]) w' hbd
      rw [accT, List.append_nil]
      exact this
    · have hgB : g < B := Nat.lt_of_lt_of_le (h3 g rfl) hh
      exact items_5 0 noS none 0 0 g l.length c2 _ B (acc ++ [91]) w' hbd hgB hsm.1 (by simp at hln ⊢; omega) (items_write (ownsRow_keep h2 (fun k hk => hb.block k (Nat.lt_of_lt_of_le (h3 k hk) hh))) (RepL.keep _ _ h4 (fun k ka kb => hb.block k (by omega))) (by omega) h8 hsm.2 (hE.below hb h8) hIH)
  | .obj ns l => fun lo hi w B acc kd x s a1 l1 c1 a2 l2 c2 hr hh h8 hsm hE hBd hln => by
    unfold Rep at hr
    obtain ⟨nm, it, xs, h1, hnm, hnb, h2, h3, heq, h4⟩ := hr
    obtain ⟨rfl, rfl, rfl, rfl, rfl⟩ := five_inj h1
    unfold smJ at hsm
    obtain ⟨rfl, hn⟩ := own_form h2
    obtain ⟨rfl, hn'⟩ := own_form hnm
    have hIH : ∀ j ∈ l, WrOk j := fun j hj => write_all j
    rw [textJ_obj] at hln ⊢
    refine write_nest 6 123 125 (Or.inr ⟨rfl, rfl, rfl⟩) 0 noS a1 ns.length c1 a2 l.length c2 _ B acc w hBd hln (fun w' hst hbd => ?_)
    have hb := hst.below
    rcases hn with h0 | ⟨g, rfl, hg⟩
    · rw [h0]
      have := items_0 6 0 noS a1 ns.length c1 a2 c2 B (acc ++ [123]) w' hbd
      rw [accT, List.append_nil]
      exact this
    · rcases hn' with h0 | ⟨gn, rfl, hgn⟩
      · have h0' : l.length = 0 := by omega
        rw [h0']
        have := items_0 6 0 noS a1 ns.length c1 (some ⟨g, 0, none⟩) c2 B (acc ++ [123]) w' hbd
        rw [accT, List.append_nil]
        exact this
      · have hgB : g < B := Nat.lt_of_lt_of_le (h3 g rfl) hh
        have hgnB : gn < B := Nat.lt_of_lt_of_le (hnb gn rfl) hh
        have hnm' := ownsRow_keep hnm (fun k hk => hb.block k (Nat.lt_of_lt_of_le (hnb k hk) hh))
        have hI := items_6 0 noS gn c1 ns g l.length c2 (fun i => (textsL l).getD i []) B (acc ++ [123]) w' hbd hgB hsm.1 hgnB (fun i hi => ⟨names_cells hnm' i (by omega), hsm.2.1 i (by omega)⟩) (by simp at hln ⊢; omega) (items_write (ownsRow_keep h2 (fun k hk => hb.block k (Nat.lt_of_lt_of_le (h3 k hk) hh))) (RepL.keep _ _ h4 (fun k ka kb => hb.block k (by omega))) (by omega) h8 hsm.2.2 (hE.below hb h8) hIH)
        rw [heq]
        exact hI
end Go.Proofs.YtnccaidlcaeeaaaGreatDoor
namespace Go.Proofs.YtnccaidlcaeeaaaGreatDoor
open Go Go.RowKit Go.Maps

theorem check_top (j : J) (lo hi : Nat) (w : World) (kd x : Int) (s : ByteArray) (a1 : Option Addr) (l1 c1 : Nat) (a2 : Option Addr) (l2 c2 : Nat) (hr : Rep w lo hi j (five kd x s (.slice a1 l1 c1) (.slice a2 l2 c2))) (hh : hi ≤ w.heap.size) (hok : okJ 0 j) (hU : Lib.Utf8Tabs 1 2 w) (h8 : 8 ≤ w.heap.size) :
    Calls Tryz.prog 29 #[.agg #[.int .i64 kd, .int .i64 x, .string s, .slice a1 l1 c1, .slice a2 l2 c2]] w fun e w' => e = .returned (.int .i64 0) ∧ Below w.heap.size w w' := by
  have HC : Hid (∀ o, Calls Tryz.prog 43 #[.agg #[.int .i64 kd, .int .i64 x, .string s, .slice a1 l1 c1, .slice a2 l2 c2], .int .i64 0] (w.alloc o) fun e w' => e = .returned (.int .i64 0) ∧ Below w.heap.size w w') := fun o => by
    have hb : Below w.heap.size w (w.alloc o) := (Below.refl _ _).alloc (Nat.le_refl _) _
    refine (check_all j 0 lo hi (w.alloc o) kd x s a1 l1 c1 a2 l2 c2 (Rep.keep j _ hr (fun k ka kb => hb.block k (by omega))) (by have := hb.size; omega) hok (utf_below hU hb h8) (by have := hb.size; omega)).mono ?_
    rintro e w' ⟨rfl, h⟩
    exact ⟨rfl, hb.trans (h.mono hb.size)⟩
  clear hr hh hok hU
  go_enter Tryz.func29, Tryz.ntmps29
  go_wp2_with fail
  refine (HC.out _).mono ?_
  rintro e w1 ⟨rfl, hb1⟩
  go_wp2_with fail
  go_ret
  exact ⟨rfl, hb1⟩

set_option maxHeartbeats 1000000 in
theorem print_any (j : J) (lo hi : Nat) (w : World) (kd x : Int) (s : ByteArray) (a1 : Option Addr) (l1 c1 : Nat) (a2 : Option Addr) (l2 c2 : Nat) (hr : Rep w lo hi j (five kd x s (.slice a1 l1 c1) (.slice a2 l2 c2))) (hh : hi ≤ w.heap.size) (hok : okJ 0 j) (hsm : smJ j) (hlen : lenJ j ≤ 65536) (htx : (textJ j).length ≤ 900000000) (hE : EnvP w) :
    Calls Tryz.prog 22 #[.agg #[.int .i64 kd, .int .i64 x, .string s, .slice a1 l1 c1, .slice a2 l2 c2]] w fun e w' => e = .returned (.tuple #[.string ⟨(textJ j).toArray⟩, .int .i64 0]) ∧ Below w.heap.size w w' := by
  have h8 := hE.big
  have HC1 : Hid (∀ w', Below w.heap.size w w' → Calls Tryz.prog 29 #[.agg #[.int .i64 kd, .int .i64 x, .string s, .slice a1 l1 c1, .slice a2 l2 c2]] w' fun e w'' => e = .returned (.int .i64 0) ∧ Below w'.heap.size w' w'') := fun w' hb =>
    check_top j lo hi w' kd x s a1 l1 c1 a2 l2 c2 (Rep.keep j _ hr (fun k ka kb => hb.block k (by omega))) (by have := hb.size; omega) hok (utf_below hE.utf hb h8) (by have := hb.size; omega)
  have HC2 : Hid (∀ w', Below w.heap.size w w' → Calls Tryz.prog 30 #[.agg #[.int .i64 kd, .int .i64 x, .string s, .slice a1 l1 c1, .slice a2 l2 c2]] w' fun e w'' => e = .returned (.int .i64 (lenJ j : Nat)) ∧ Below w'.heap.size w' w'') := fun w' hb =>
    len_all j lo hi w' kd x s a1 l1 c1 a2 l2 c2 (Rep.keep j _ hr (fun k ka kb => hb.block k (by omega))) (by have := hb.size; omega) hsm (by omega) (hE.below hb h8)
  have HC3 : Hid (∀ w' B, Below w.heap.size w w' → w.heap.size ≤ B → Bd B [] w' → Calls Tryz.prog 32 #[.pointer (some ⟨B, 0, none⟩), .agg #[.int .i64 kd, .int .i64 x, .string s, .slice a1 l1 c1, .slice a2 l2 c2]] w' fun e w'' => e = .returned (.tuple #[]) ∧ Bd B (textJ j) w'' ∧ St B w' w'') := fun w' B hb hB hbd => by
    have := write_all j lo hi w' B [] kd x s a1 l1 c1 a2 l2 c2 (Rep.keep j _ hr (fun k ka kb => hb.block k (by omega))) (by omega) (by omega) hsm (hE.below hb h8) hbd (by simpa using htx)
    simpa using this
  have hB : ∀ o, Below w.heap.size w (w.alloc o) := fun o => (Below.refl _ _).alloc (Nat.le_refl _) _
  have hl : ((lenJ j : Nat) : Int) ≤ 65536 := by omega
  clear hr hh hok hsm htx hE
  go_enter Tryz.func22, Tryz.ntmps22
  go_wp2_with fail
  refine (HC1.out _ (hB _)).mono ?_
  rintro e w1 ⟨rfl, hb1⟩
  have hbw1 := (hB _).trans (hb1.mono (by simp))
  have u0 : w1.cell? ⟨w.heap.size, 0, none⟩ = some (.int .i64 kd) := box_cells (by simpa using hb1) 0
  have u1 : w1.cell? ⟨w.heap.size, 1, none⟩ = some (.int .i64 x) := box_cells (by simpa using hb1) 1
  have u2 : w1.cell? ⟨w.heap.size, 2, none⟩ = some (.string s) := box_cells (by simpa using hb1) 2
  have u3 : w1.cell? ⟨w.heap.size, 3, none⟩ = some (.slice a1 l1 c1) := box_cells (by simpa using hb1) 3
  have u4 : w1.cell? ⟨w.heap.size, 4, none⟩ = some (.slice a2 l2 c2) := box_cells (by simpa using hb1) 4
  have hs1 : w.heap.size < w1.heap.size := by have := hb1.size; simp at this; omega
  clear hb1
  go_wp2_with fail
  refine (HC2.out w1 hbw1).mono ?_
  rintro e w2 ⟨rfl, hb2⟩
  have hbw2 := hbw1.trans (hb2.mono hbw1.size)
  have u0' : w2.cell? ⟨w.heap.size, 0, none⟩ = some (.int .i64 kd) := (World.cell?_of_block (w := w1) (a := ⟨w.heap.size, 0, none⟩) (hb2.block w.heap.size hs1)).trans u0
  have u1' : w2.cell? ⟨w.heap.size, 1, none⟩ = some (.int .i64 x) := (World.cell?_of_block (w := w1) (a := ⟨w.heap.size, 1, none⟩) (hb2.block w.heap.size hs1)).trans u1
  have u2' : w2.cell? ⟨w.heap.size, 2, none⟩ = some (.string s) := (World.cell?_of_block (w := w1) (a := ⟨w.heap.size, 2, none⟩) (hb2.block w.heap.size hs1)).trans u2
  have u3' : w2.cell? ⟨w.heap.size, 3, none⟩ = some (.slice a1 l1 c1) := (World.cell?_of_block (w := w1) (a := ⟨w.heap.size, 3, none⟩) (hb2.block w.heap.size hs1)).trans u3
  have u4' : w2.cell? ⟨w.heap.size, 4, none⟩ = some (.slice a2 l2 c2) := (World.cell?_of_block (w := w1) (a := ⟨w.heap.size, 4, none⟩) (hb2.block w.heap.size hs1)).trans u4
  have hs2 : w.heap.size < w2.heap.size := Nat.lt_of_lt_of_le hs1 hb2.size
  clear u0 u1 u2 u3 u4 hb2
  have g0 : ¬ (((lenJ j : Nat) : Int) > 65536) := by omega
  go_wp2_with fail
  refine (Tryz.Builder_Grow_fresh_cap w2.heap.size w2.heap.size (lenJ j) _ (Nat.le_refl _) (heap_alloc_new w2 _) (by simp) (by omega)).mono ?_
  rintro e w3 ⟨rfl, ⟨hba, hb3⟩, -⟩
  have hb3' : Below w2.heap.size w2 w3 := ((Below.refl _ _).alloc (Nat.le_refl _) _).trans hb3
  have HBD : Hid (Bd w2.heap.size [] w3) := Or.inr (Lib.BuilderAtF.of hba)
  have hbw3 := hbw2.trans (hb3'.mono (by omega))
  have u0 : w3.cell? ⟨w.heap.size, 0, none⟩ = some (.int .i64 kd) := (World.cell?_of_block (w := w2) (a := ⟨w.heap.size, 0, none⟩) (hb3'.block w.heap.size hs2)).trans u0'
  have u1 : w3.cell? ⟨w.heap.size, 1, none⟩ = some (.int .i64 x) := (World.cell?_of_block (w := w2) (a := ⟨w.heap.size, 1, none⟩) (hb3'.block w.heap.size hs2)).trans u1'
  have u2 : w3.cell? ⟨w.heap.size, 2, none⟩ = some (.string s) := (World.cell?_of_block (w := w2) (a := ⟨w.heap.size, 2, none⟩) (hb3'.block w.heap.size hs2)).trans u2'
  have u3 : w3.cell? ⟨w.heap.size, 3, none⟩ = some (.slice a1 l1 c1) := (World.cell?_of_block (w := w2) (a := ⟨w.heap.size, 3, none⟩) (hb3'.block w.heap.size hs2)).trans u3'
  have u4 : w3.cell? ⟨w.heap.size, 4, none⟩ = some (.slice a2 l2 c2) := (World.cell?_of_block (w := w2) (a := ⟨w.heap.size, 4, none⟩) (hb3'.block w.heap.size hs2)).trans u4'
  clear u0' u1' u2' u3' u4' hba hb3 hb3'
  go_wp2_with fail
  clear u0 u1 u2 u3 u4
  refine (HC3.out w3 w2.heap.size hbw3 (by omega) HBD.out).mono ?_
  rintro e w4 ⟨rfl, hb4, hst4⟩
  have HB4 : Hid (Bd w2.heap.size (textJ j) w4) := hb4
  have hbw4 := hbw3.trans (hst4.below.mono (by omega))
  clear hb4 hst4
  go_wp2_with fail
  refine (Tryz.Builder_String_any_k w2.heap.size w2.heap.size (textJ j) w4 HB4.out (Nat.le_of_lt HB4.out.lt)).mono ?_
  rintro e w5 ⟨rfl, -, hb5, -⟩
  have hbw5 := hbw4.trans (hb5.mono (by omega))
  clear hb5
  go_wp2_with fail
  go_ret2
  exact ⟨rfl, hbw5⟩
end Go.Proofs.YtnccaidlcaeeaaaGreatDoor
namespace Go.Proofs.YtnccaidlcaeeaaaGreatDoor
open Go Go.RowKit Go.Maps

def T1 : ByteArray := ⟨#[32, 123, 34, 97, 34, 32, 58, 32, 91, 49, 44, 32, 45, 50, 44, 32, 116, 114, 117, 101, 44, 32, 34, 120, 34, 93, 125, 32]⟩
def T2 : ByteArray := ⟨#[91, 49, 46, 53, 93]⟩
def J1 : J := .obj [⟨#[97]⟩] [.list [.int 1, .int (-2), .tru, .text ⟨#[120]⟩]]
theorem ev2 : wholeR T2 (textA T2) = .bad 14 2 := by kernel_rfl
theorem ev1 : wholeR T1 (textA T1) = .ok J1 0 := by kernel_rfl
theorem ev3 : textJ J1 = [123, 34, 97, 34, 58, 91, 49, 44, 45, 50, 44, 116, 114, 117, 101, 44, 34, 120, 34, 93, 125] := by kernel_rfl
theorem ev4 : lenJ J1 = 21 := by kernel_rfl
theorem asc1 : Asc T1 := by unfold Asc; decide
theorem asc2 : Asc T2 := by unfold Asc; decide
theorem okT_a : okT ⟨#[97]⟩ := by unfold okT; decide
theorem okT_x : okT ⟨#[120]⟩ := by unfold okT; decide
theorem sm1 : smJ J1 := by
  refine ⟨by decide, fun i hi => ?_, ⟨by decide, ⟨by decide, by decide⟩, ⟨by decide, by decide⟩, True.intro, okT_x, True.intro⟩, True.intro⟩
  have : i = 0 := by simp at hi; omega
  subst this
  exact okT_a
theorem Env.below {w w1 : World} {B : Nat} (h : Env w) (hb : Below B w w1) (h8 : 8 ≤ B) : Env w1 := h.keep (fun k hk => hb.block k (by omega))
theorem d2 : (2 : Nat) ≤ 64 := by decide
theorem ok1 : okJ 0 J1 := by
  refine ⟨by decide, by decide, ?_, ⟨by decide, by decide, d2, d2, d2, ⟨d2, by decide, by kernel_rfl⟩, True.intro⟩, True.intro⟩
  intro i hi
  have : i = 0 := by simp at hi; omega
  subst this
  exact ⟨by decide, by kernel_rfl, by kernel_rfl⟩
theorem num_any (n : Nat) (w : World) : Calls Tryz.prog 15 #[.int .i64 (n : Int)] w fun e w' => e = .returned (.int .i64 (n : Int)) ∧ w' = w := by
  go_enter Tryz.func15, Tryz.ntmps15
  go_wp2_with fail
  go_ret
  exact ⟨rfl, rfl⟩
set_option maxHeartbeats 2000000 in
theorem live_true (w : World) (hE : Env w) (hP : EnvP w) : Calls Tryz.prog 12 #[] w fun e w' => e = .returned (.bool true) ∧ Below w.heap.size w w' := by
  have h8 := hP.big
  have HP1 : Hid (∀ w', Below w.heap.size w w' → Calls Tryz.prog 14 #[.string T1] w' fun e w'' => ParsePost w' e w'' (.ok J1 0) ∧ Below w'.heap.size w' w'') := fun w' hb => by
    have := parse_any T1 (textA T1) (quoted_asc T1 asc1 (by decide)) w' (hE.below hb h8) (by have := hb.size; omega) (by decide)
    rwa [ev1] at this
  have HP2 : Hid (∀ w', Below w.heap.size w w' → Calls Tryz.prog 14 #[.string T2] w' fun e w'' => ParsePost w' e w'' (.bad 14 2) ∧ Below w'.heap.size w' w'') := fun w' hb => by
    have := parse_any T2 (textA T2) (quoted_asc T2 asc2 (by decide)) w' (hE.below hb h8) (by have := hb.size; omega) (by decide)
    rwa [ev2] at this
  have HPR : Hid (∀ (w' : World) (kd x : Int) (s : ByteArray) (a1 : Option Addr) (l1 c1 : Nat) (a2 : Option Addr) (l2 c2 hi : Nat), Below w.heap.size w w' → hi ≤ w'.heap.size → Rep w' w.heap.size hi J1 (five kd x s (.slice a1 l1 c1) (.slice a2 l2 c2)) → Calls Tryz.prog 22 #[.agg #[.int .i64 kd, .int .i64 x, .string s, .slice a1 l1 c1, .slice a2 l2 c2]] w' fun e w'' => e = .returned (.tuple #[.string ⟨#[123, 34, 97, 34, 58, 91, 49, 44, 45, 50, 44, 116, 114, 117, 101, 44, 34, 120, 34, 93, 125]⟩, .int .i64 0]) ∧ Below w'.heap.size w' w'') := fun w' kd x s a1 l1 c1 a2 l2 c2 hi hb hh hr => by
    have := print_any J1 w.heap.size hi w' kd x s a1 l1 c1 a2 l2 c2 hr hh ok1 sm1 (by rw [ev4]; decide) (by rw [ev3]; decide) (hP.below hb h8)
    rwa [ev3] at this
  go_enter Tryz.func12, Tryz.ntmps12
  go_wp2_with fail
  refine (HP1.out w (Below.refl _ _)).mono ?_
  rintro e w1 ⟨⟨kd, x, s, a1, l1, c1, a2, l2, c2, rfl, hrep⟩, hb1⟩
  have HR : Hid (Rep w1 w.heap.size w1.heap.size J1 (five kd x s (.slice a1 l1 c1) (.slice a2 l2 c2))) := hrep
  clear hrep
  go_wp2_with fail
  have hbx := hb1.alloc hb1.size (.cells #[.int .i64 kd, .int .i64 x, .string s, .slice a1 l1 c1, .slice a2 l2 c2] 25)
  refine (HPR.out _ kd x s a1 l1 c1 a2 l2 c2 w1.heap.size hbx (by simp) (Rep.keep J1 _ HR.out (fun k _ kb => heap_alloc_old w1 _ kb))).mono ?_
  rintro e w2 ⟨rfl, hb2⟩
  have hbw2 := hbx.trans (hb2.mono hbx.size)
  clear hb2 hbx HR HPR hb1
  go_wp2_with fail
  refine (HP2.out w2 hbw2).mono ?_
  rintro e w3 ⟨h, hb3⟩
  have h' : e = .returned (.tuple #[.agg #[.int .i64 0, .int .i64 0, .string noS, .slice none 0 0, .slice none 0 0], .int .i64 14, .int .i64 2]) := h
  subst h'
  have hbw3 := hbw2.trans (hb3.mono hbw2.size)
  clear h hb3
  go_wp2_with fail
  refine (num_any 0 _).mono ?_
  rintro e w4 ⟨rfl, rfl⟩
  go_wp2_with fail
  refine (num_any 0 _).mono ?_
  rintro e w4 ⟨rfl, rfl⟩
  go_wp2_with fail
  refine (num_any 14 _).mono ?_
  rintro e w4 ⟨rfl, rfl⟩
  go_wp2_with fail
  go_ret
  exact ⟨rfl, hbw3.alloc hbw3.size _⟩
end Go.Proofs.YtnccaidlcaeeaaaGreatDoor
