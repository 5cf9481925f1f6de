import Derived.Test.YtelbjecdbogpcaaGreatDoorB5
/-! The text of every value that Check finds good: its items. -/
namespace Go.Proofs.YtelbjecdbogpcaaGreatDoor.Tree
open Go Go.RowKit Go.Maps

/-- The cells of item i of the row at a place of block g. -/
structure ItemAtO (w : World) (g o i : Nat) (kd x : Int) (s : ByteArray) (a1 : Option Addr) (l1 c1 : Nat) (a2 : Option Addr) (l2 c2 : Nat) : Prop where
  f0 : w.cell? ⟨g, o + i * 5, none⟩ = some (.int .i64 kd)
  f1 : w.cell? ⟨g, o + i * 5 + 1, none⟩ = some (.int .i64 x)
  f2 : w.cell? ⟨g, o + i * 5 + 2, none⟩ = some (.string s)
  f3 : w.cell? ⟨g, o + i * 5 + 3, none⟩ = some (.slice a1 l1 c1)
  f4 : w.cell? ⟨g, o + i * 5 + 4, none⟩ = some (.slice a2 l2 c2)
theorem ItemAtO.keep {w w' : World} {g o i : Nat} {kd x : Int} {s : ByteArray} {a1 : Option Addr} {l1 c1 : Nat} {a2 : Option Addr} {l2 c2 : Nat} (h : ItemAtO w g o i kd x s a1 l1 c1 a2 l2 c2) (hk : w'.heap[g]? = w.heap[g]?) : ItemAtO w' g o i kd x s a1 l1 c1 a2 l2 c2 :=
  ⟨(World.cell?_of_block (w := w) hk).trans h.f0, (World.cell?_of_block (w := w) hk).trans h.f1, (World.cell?_of_block (w := w) hk).trans h.f2, (World.cell?_of_block (w := w) hk).trans h.f3, (World.cell?_of_block (w := w) hk).trans h.f4⟩
/-- What the writing of a row asks of its items. -/
def WGoodO (f : Nat → List UInt8) (B : Nat) (w : World) (g o n : Nat) : Prop :=
  ∀ i, i < n → ∃ (kd x : Int) (s : ByteArray) (a1 : Option Addr) (l1 c1 : Nat) (a2 : Option Addr) (l2 c2 : Nat), ItemAtO w g o i kd x s a1 l1 c1 a2 l2 c2 ∧
    ∀ w' acc, Below B w w' → Bd B acc w' → acc.length + (f i).length ≤ 900000000 → Calls Tryz.prog 31 #[.pointer (some ⟨B, 0, none⟩), .agg #[.int .i64 kd, .int .i64 x, .string s, .slice a1 l1 c1, .slice a2 l2 c2]] w' fun e w'' => e = .returned (.tuple #[]) ∧ Bd B (acc ++ f i) w'' ∧ St B w' w''
set_option maxHeartbeats 1000000 in
theorem items_5o (x : Int) (s : ByteArray) (a1 : Option Addr) (l1 c1 : Nat) (g o M : Nat) (c2 : Nat) (f : Nat → List UInt8) (B : Nat) (acc : List UInt8) (w : World) (hBd : Bd B acc w) (hg : g < B) (hM : M ≤ 65536)  (hln : acc.length + (accT (fun _ => []) f M).length ≤ 900000000) (hIt : Hid (WGoodO f B w g o M)) :
    Calls Tryz.prog 52 #[.pointer (some ⟨B, 0, none⟩), .agg #[.int .i64 5, .int .i64 x, .string s, .slice a1 l1 c1, .slice (some ⟨g, o, none⟩) M c2]] w fun e w' => e = .returned (.tuple #[]) ∧ Bd B (acc ++ accT (fun _ => []) f M) w' ∧ St B w w' := by
  have hBw := hBd.lt
  have HB0 : Hid (Bd B acc (w.alloc (.cells #[.int .i64 5, .int .i64 x, .string s, .slice a1 l1 c1, .slice (some ⟨g, o, none⟩) M c2] 25))) := hBd.alloc _
  have HS0 : Hid (St B w (w.alloc (.cells #[.int .i64 5, .int .i64 x, .string s, .slice a1 l1 c1, .slice (some ⟨g, o, none⟩) M c2] 25))) := (St.refl B w).alloc (Nat.le_of_lt hBw) _
  have HX0 : Hid ((w.alloc (.cells #[.int .i64 5, .int .i64 x, .string s, .slice a1 l1 c1, .slice (some ⟨g, o, none⟩) M c2] 25)).heap[w.heap.size]? = some (.cells #[.int .i64 5, .int .i64 x, .string s, .slice a1 l1 c1, .slice (some ⟨g, o, none⟩) M c2] 25)) := box_new w _ _
  have HLN : Hid (acc.length + (accT (fun _ => []) f M).length ≤ 900000000) := hln
  clear hBd hln
  go_enter Tryz.func52, Tryz.ntmps52
  go_wp2_with fail
  generalize hw0 : w.alloc (.cells #[.int .i64 5, .int .i64 x, .string s, .slice a1 l1 c1, .slice (some ⟨g, o, none⟩) M c2] 25) = w0 at *
  clear hw0
  go_loopw [9] (fun i wr => ∃ q : Nat, q ≤ M ∧ i = .int .i64 q ∧ Hid (Bd B (acc ++ accT (fun _ => []) f q) wr) ∧ Hid (St B w wr) ∧ Hid (wr.heap[w.heap.size]? = some (.cells #[.int .i64 5, .int .i64 x, .string s, .slice a1 l1 c1, .slice (some ⟨g, o, none⟩) M c2] 25))) (fun i wr => M - (intOf i).toNat)
  case atStart => exact ⟨0, Nat.zero_le _, rfl, by unfold Hid; rw [accT, List.append_nil]; exact HB0.out, HS0, HX0⟩
  case round =>
    obtain ⟨q, hq, rfl, HQB, HQS, HQX⟩ := hrel
    have hsz := HQS.out.below.size
    by_cases hlt : q < M
    · obtain ⟨kd2, x2, s2, a12, l12, c12, a22, l22, c22, hia, hcall⟩ := hIt.out q hlt
      obtain ⟨z0, z1, z2, z3, z4⟩ := hia.keep (HQS.out.below.block g hg)
      have HC : Hid (∀ w' acc, Below B w w' → Bd B acc w' → acc.length + (f q).length ≤ 900000000 → Calls Tryz.prog 31 #[.pointer (some ⟨B, 0, none⟩), .agg #[.int .i64 kd2, .int .i64 x2, .string s2, .slice a12 l12 c12, .slice a22 l22 c22]] w' fun e w'' => e = .returned (.tuple #[]) ∧ Bd B (acc ++ f q) w'' ∧ St B w' w'') := hcall
      have HLQ : Hid (acc.length + ((accT (fun _ => []) f q).length + (sepT q).length + 0 + (f q).length) ≤ 900000000) := by
        have h1 : (accT (fun _ => []) f (q + 1)).length ≤ (accT (fun _ => []) f M).length := accT_len _ _ (by omega)
        have h2 := HLN.out
        have h3 : (accT (fun _ => []) f (q + 1)).length = (accT (fun _ => []) f q).length + (sepT q).length + 0 + (f q).length := by
          simp only [accT, List.length_append, List.length_nil]
        unfold Hid; omega
      clear hcall hia
      have HIB : Hid (Bd B (acc ++ accT (fun _ => []) f q) (wr.alloc (.cells #[.int .i64 kd2, .int .i64 x2, .string s2, .slice a12 l12 c12, .slice a22 l22 c22] 25))) := HQB.out.alloc _
      have HIS : Hid (St B w (wr.alloc (.cells #[.int .i64 kd2, .int .i64 x2, .string s2, .slice a12 l12 c12, .slice a22 l22 c22] 25))) := HQS.out.alloc (by omega) _
      have HIX : Hid ((wr.alloc (.cells #[.int .i64 kd2, .int .i64 x2, .string s2, .slice a12 l12 c12, .slice a22 l22 c22] 25)).heap[wr.heap.size]? = some (.cells #[.int .i64 kd2, .int .i64 x2, .string s2, .slice a12 l12 c12, .slice a22 l22 c22] 25)) := box_new wr _ _
      have HIV : Hid ((wr.alloc (.cells #[.int .i64 kd2, .int .i64 x2, .string s2, .slice a12 l12 c12, .slice a22 l22 c22] 25)).heap[w.heap.size]? = some (.cells #[.int .i64 5, .int .i64 x, .string s, .slice a1 l1 c1, .slice (some ⟨g, o, none⟩) M c2] 25)) := by unfold Hid; exact (heap_alloc_old wr _ (Array.getElem?_eq_some_iff.1 HQX.out).1).trans HQX.out
      have hwr : w.heap.size < wr.heap.size := (Array.getElem?_eq_some_iff.1 HQX.out).1
      by_cases h0 : q = 0
      · have g0 : ¬ ((q : Int) > 0) := by omega
        have H0 : Hid (q = 0) := h0
        clear h0
        have v0 : wr.cell? ⟨w.heap.size, 0, none⟩ = some (.int .i64 5) := cells_at HQX.out 0
        go_wp2_with fail
        clear z0 z1 z2 z3 z4 v0
        generalize wr.alloc (.cells #[.int .i64 kd2, .int .i64 x2, .string s2, .slice a12 l12 c12, .slice a22 l22 c22] 25) = wx at *
        have HB := HIB
        have HS := HIS
        have HX := HIX
        have HV := HIV
        clear HIB HIS HIX HIV
        refine (HC.out wx _ HS.out.below HB.out (by have h := HLQ.out; rw [sepT, if_pos H0.out] at h; simp at h ⊢; omega)).mono ?_
        rintro e w4 ⟨rfl, hb4, hst4⟩
        have HB4 : Hid (Bd B (acc ++ accT (fun _ => []) f (q + 1)) w4) := by
          have h : Bd B _ w4 := hb4
          unfold Hid; rw [accT, sepT, if_pos H0.out]; simp at h ⊢; exact h
        have HS4 : Hid (St B w w4) := HS.out.trans hst4
        have HV4 := hid (hst4.cells HV.out (by omega) (by decide))
        clear hb4 hst4 HB HS HX HV
        go_wp2_with fail
        go_roundw
        case rel => exact ⟨q + 1, by omega, by go_num, HB4, HS4, HV4⟩
        case measure => simp [intOf]; omega
      · have g0 : (q : Int) > 0 := by omega
        have H0 : Hid (¬ q = 0) := h0
        clear h0
        go_wp2_with fail
        clear z0 z1 z2 z3 z4
        generalize wr.alloc (.cells #[.int .i64 kd2, .int .i64 x2, .string s2, .slice a12 l12 c12, .slice a22 l22 c22] 25) = wy at *
        refine (wB B _ 44 wy HIB.out (by have h := HLQ.out; simp at h ⊢; omega)).mono ?_
        rintro e wx ⟨rfl, hb1, hst1⟩
        have HB : Hid (Bd B _ wx) := hb1
        have HS : Hid (St B w wx) := HIS.out.trans hst1
        have HX := hid (hst1.cells HIX.out (by omega) (by decide))
        have HV := hid (hst1.cells HIV.out (by omega) (by decide))
        clear hb1 hst1 HIB HIS HIX HIV
        have v0 : wx.cell? ⟨w.heap.size, 0, none⟩ = some (.int .i64 5) := cells_at HV.out 0
        have u0 : wx.cell? ⟨wr.heap.size, 0, none⟩ = some (.int .i64 kd2) := cells_at HX.out 0
        have u1 : wx.cell? ⟨wr.heap.size, 1, none⟩ = some (.int .i64 x2) := cells_at HX.out 1
        have u2 : wx.cell? ⟨wr.heap.size, 2, none⟩ = some (.string s2) := cells_at HX.out 2
        have u3 : wx.cell? ⟨wr.heap.size, 3, none⟩ = some (.slice a12 l12 c12) := cells_at HX.out 3
        have u4 : wx.cell? ⟨wr.heap.size, 4, none⟩ = some (.slice a22 l22 c22) := cells_at HX.out 4
        go_wp2_with fail
        clear u0 u1 u2 u3 u4
        clear v0
        refine (HC.out wx _ HS.out.below HB.out (by have h := HLQ.out; rw [sepT, if_neg H0.out] at h; simp at h ⊢; omega)).mono ?_
        rintro e w4 ⟨rfl, hb4, hst4⟩
        have HB4 : Hid (Bd B (acc ++ accT (fun _ => []) f (q + 1)) w4) := by
          have h : Bd B _ w4 := hb4
          unfold Hid; rw [accT, sepT, if_neg H0.out]; simp at h ⊢; exact h
        have HS4 : Hid (St B w w4) := HS.out.trans hst4
        have HV4 := hid (hst4.cells HV.out (by omega) (by decide))
        clear hb4 hst4 HB HS HX HV
        go_wp2_with fail
        go_roundw
        case rel => exact ⟨q + 1, by omega, by go_num, HB4, HS4, HV4⟩
        case measure => simp [intOf]; omega
    · have hqe : q = M := by omega
      subst hqe
      clear hlt hq
      go_wp2_with fail
      go_end0
      exact ⟨rfl, HQB.out, HQS.out⟩
set_option maxHeartbeats 1000000 in
theorem items_6o (x : Int) (s : ByteArray) (gn on c1 : Nat) (ns : List ByteArray) (g o M : Nat) (c2 : Nat) (f : Nat → List UInt8) (B : Nat) (acc : List UInt8) (w : World) (hBd : Bd B acc w) (hg : g < B) (hM : M ≤ 65536) (hgn : gn < B) (hNc : Hid (∀ i, i < M → w.cell? ⟨gn, on + i, none⟩ = some (.string (nth ns i)) ∧ okT (nth ns i))) (hln : acc.length + (accT (fun i => qT (nth ns i) ++ [58]) f M).length ≤ 900000000) (hIt : Hid (WGoodO f B w g o M)) :
    Calls Tryz.prog 52 #[.pointer (some ⟨B, 0, none⟩), .agg #[.int .i64 6, .int .i64 x, .string s, .slice (some ⟨gn, on, none⟩) M c1, .slice (some ⟨g, o, none⟩) M c2]] w fun e w' => e = .returned (.tuple #[]) ∧ Bd B (acc ++ accT (fun i => qT (nth ns i) ++ [58]) f M) w' ∧ St B w w' := by
  have hBw := hBd.lt
  have HB0 : Hid (Bd B acc (w.alloc (.cells #[.int .i64 6, .int .i64 x, .string s, .slice (some ⟨gn, on, none⟩) M c1, .slice (some ⟨g, o, none⟩) M c2] 25))) := hBd.alloc _
  have HS0 : Hid (St B w (w.alloc (.cells #[.int .i64 6, .int .i64 x, .string s, .slice (some ⟨gn, on, none⟩) M c1, .slice (some ⟨g, o, none⟩) M c2] 25))) := (St.refl B w).alloc (Nat.le_of_lt hBw) _
  have HX0 : Hid ((w.alloc (.cells #[.int .i64 6, .int .i64 x, .string s, .slice (some ⟨gn, on, none⟩) M c1, .slice (some ⟨g, o, none⟩) M c2] 25)).heap[w.heap.size]? = some (.cells #[.int .i64 6, .int .i64 x, .string s, .slice (some ⟨gn, on, none⟩) M c1, .slice (some ⟨g, o, none⟩) M c2] 25)) := box_new w _ _
  have HLN : Hid (acc.length + (accT (fun i => qT (nth ns i) ++ [58]) f M).length ≤ 900000000) := hln
  clear hBd hln
  go_enter Tryz.func52, Tryz.ntmps52
  go_wp2_with fail
  generalize hw0 : w.alloc (.cells #[.int .i64 6, .int .i64 x, .string s, .slice (some ⟨gn, on, none⟩) M c1, .slice (some ⟨g, o, none⟩) M c2] 25) = w0 at *
  clear hw0
  go_loopw [9] (fun i wr => ∃ q : Nat, q ≤ M ∧ i = .int .i64 q ∧ Hid (Bd B (acc ++ accT (fun i => qT (nth ns i) ++ [58]) f q) wr) ∧ Hid (St B w wr) ∧ Hid (wr.heap[w.heap.size]? = some (.cells #[.int .i64 6, .int .i64 x, .string s, .slice (some ⟨gn, on, none⟩) M c1, .slice (some ⟨g, o, none⟩) M c2] 25))) (fun i wr => M - (intOf i).toNat)
  case atStart => exact ⟨0, Nat.zero_le _, rfl, by unfold Hid; rw [accT, List.append_nil]; exact HB0.out, HS0, HX0⟩
  case round =>
    obtain ⟨q, hq, rfl, HQB, HQS, HQX⟩ := hrel
    have hsz := HQS.out.below.size
    by_cases hlt : q < M
    · obtain ⟨kd2, x2, s2, a12, l12, c12, a22, l22, c22, hia, hcall⟩ := hIt.out q hlt
      obtain ⟨z0, z1, z2, z3, z4⟩ := hia.keep (HQS.out.below.block g hg)
      have HC : Hid (∀ w' acc, Below B w w' → Bd B acc w' → acc.length + (f q).length ≤ 900000000 → Calls Tryz.prog 31 #[.pointer (some ⟨B, 0, none⟩), .agg #[.int .i64 kd2, .int .i64 x2, .string s2, .slice a12 l12 c12, .slice a22 l22 c22]] w' fun e w'' => e = .returned (.tuple #[]) ∧ Bd B (acc ++ f q) w'' ∧ St B w' w'') := hcall
      have HLQ : Hid (acc.length + ((accT (fun i => qT (nth ns i) ++ [58]) f q).length + (sepT q).length + ((qT (nth ns q)).length + 1) + (f q).length) ≤ 900000000) := by
        have h1 : (accT (fun i => qT (nth ns i) ++ [58]) f (q + 1)).length ≤ (accT (fun i => qT (nth ns i) ++ [58]) f M).length := accT_len _ _ (by omega)
        have h2 := HLN.out
        have h3 : (accT (fun i => qT (nth ns i) ++ [58]) f (q + 1)).length = (accT (fun i => qT (nth ns i) ++ [58]) f q).length + (sepT q).length + ((qT (nth ns q)).length + 1) + (f q).length := by
          simp only [accT, List.length_append, List.length_cons, List.length_nil]
        unfold Hid; omega
      clear hcall hia
      have HIB : Hid (Bd B (acc ++ accT (fun i => qT (nth ns i) ++ [58]) f q) (wr.alloc (.cells #[.int .i64 kd2, .int .i64 x2, .string s2, .slice a12 l12 c12, .slice a22 l22 c22] 25))) := HQB.out.alloc _
      have HIS : Hid (St B w (wr.alloc (.cells #[.int .i64 kd2, .int .i64 x2, .string s2, .slice a12 l12 c12, .slice a22 l22 c22] 25))) := HQS.out.alloc (by omega) _
      have HIX : Hid ((wr.alloc (.cells #[.int .i64 kd2, .int .i64 x2, .string s2, .slice a12 l12 c12, .slice a22 l22 c22] 25)).heap[wr.heap.size]? = some (.cells #[.int .i64 kd2, .int .i64 x2, .string s2, .slice a12 l12 c12, .slice a22 l22 c22] 25)) := box_new wr _ _
      have HIV : Hid ((wr.alloc (.cells #[.int .i64 kd2, .int .i64 x2, .string s2, .slice a12 l12 c12, .slice a22 l22 c22] 25)).heap[w.heap.size]? = some (.cells #[.int .i64 6, .int .i64 x, .string s, .slice (some ⟨gn, on, none⟩) M c1, .slice (some ⟨g, o, none⟩) M c2] 25)) := by unfold Hid; exact (heap_alloc_old wr _ (Array.getElem?_eq_some_iff.1 HQX.out).1).trans HQX.out
      have hwr : w.heap.size < wr.heap.size := (Array.getElem?_eq_some_iff.1 HQX.out).1
      obtain ⟨hc, ho⟩ := hNc.out q hlt
      have HO : Hid (okT (nth ns q)) := ho
      have hgr : gn < wr.heap.size := by omega
      have HNB : Hid (w.cell? ⟨gn, on + q, none⟩ = some (.string (nth ns q))) := hc
      clear hc ho
      by_cases h0 : q = 0
      · have g0 : ¬ ((q : Int) > 0) := by omega
        have H0 : Hid (q = 0) := h0
        clear h0
        have v0 : wr.cell? ⟨w.heap.size, 0, none⟩ = some (.int .i64 6) := cells_at HQX.out 0
        have v3 : wr.cell? ⟨w.heap.size, 3, none⟩ = some (.slice (some ⟨gn, on, none⟩) M c1) := cells_at HQX.out 3
        have v5 : wr.cell? ⟨gn, on + q, none⟩ = some (.string (nth ns q)) := (World.cell?_of_block (w := w) (a := ⟨gn, on + q, none⟩) (HQS.out.below.block gn hgn)).trans HNB.out
        go_wp2_with fail
        clear v0 v3 v5
        clear z0 z1 z2 z3 z4
        generalize wr.alloc (.cells #[.int .i64 kd2, .int .i64 x2, .string s2, .slice a12 l12 c12, .slice a22 l22 c22] 25) = wx at *
        have HB := HIB
        have HS := HIS
        have HX := HIX
        have HV := HIV
        clear HIB HIS HIX HIV
        refine (wq_any B _ (nth ns q) HO.out wx HB.out (by have h := HLQ.out; rw [sepT, if_pos H0.out] at h; simp at h ⊢; omega)).mono ?_
        rintro e w2 ⟨rfl, hb2, hst2⟩
        have HB2 : Hid (Bd B _ w2) := hb2
        have HS2 : Hid (St B w w2) := HS.out.trans hst2
        have HX2 := hid (hst2.cells HX.out (by omega) (by decide))
        have HV2 := hid (hst2.cells HV.out (by omega) (by decide))
        clear hb2 hst2 HB HS HX HV
        go_wp2_with fail
        refine (wB B _ 58 w2 HB2.out (by have h := HLQ.out; rw [sepT, if_pos H0.out] at h; simp at h ⊢; omega)).mono ?_
        rintro e w3 ⟨rfl, hb3, hst3⟩
        have HB : Hid (Bd B _ w3) := hb3
        have HS : Hid (St B w w3) := HS2.out.trans hst3
        have HX := hid (hst3.cells HX2.out (by omega) (by decide))
        have HV := hid (hst3.cells HV2.out (by omega) (by decide))
        clear hb3 hst3 HB2 HS2 HX2 HV2
        have u0 : w3.cell? ⟨wr.heap.size, 0, none⟩ = some (.int .i64 kd2) := cells_at HX.out 0
        have u1 : w3.cell? ⟨wr.heap.size, 1, none⟩ = some (.int .i64 x2) := cells_at HX.out 1
        have u2 : w3.cell? ⟨wr.heap.size, 2, none⟩ = some (.string s2) := cells_at HX.out 2
        have u3 : w3.cell? ⟨wr.heap.size, 3, none⟩ = some (.slice a12 l12 c12) := cells_at HX.out 3
        have u4 : w3.cell? ⟨wr.heap.size, 4, none⟩ = some (.slice a22 l22 c22) := cells_at HX.out 4
        go_wp2_with fail
        clear u0 u1 u2 u3 u4
        refine (HC.out w3 _ HS.out.below HB.out (by have h := HLQ.out; rw [sepT, if_pos H0.out] at h; simp at h ⊢; omega)).mono ?_
        rintro e w4 ⟨rfl, hb4, hst4⟩
        have HB4 : Hid (Bd B (acc ++ accT (fun i => qT (nth ns i) ++ [58]) f (q + 1)) w4) := by
          have h : Bd B _ w4 := hb4
          unfold Hid; rw [accT, sepT, if_pos H0.out]; simp at h ⊢; exact h
        have HS4 : Hid (St B w w4) := HS.out.trans hst4
        have HV4 := hid (hst4.cells HV.out (by omega) (by decide))
        clear hb4 hst4 HB HS HX HV
        go_wp2_with fail
        go_roundw
        case rel => exact ⟨q + 1, by omega, by go_num, HB4, HS4, HV4⟩
        case measure => simp [intOf]; omega
      · have g0 : (q : Int) > 0 := by omega
        have H0 : Hid (¬ q = 0) := h0
        clear h0
        go_wp2_with fail
        clear z0 z1 z2 z3 z4
        generalize wr.alloc (.cells #[.int .i64 kd2, .int .i64 x2, .string s2, .slice a12 l12 c12, .slice a22 l22 c22] 25) = wy at *
        refine (wB B _ 44 wy HIB.out (by have h := HLQ.out; simp at h ⊢; omega)).mono ?_
        rintro e wx ⟨rfl, hb1, hst1⟩
        have HB : Hid (Bd B _ wx) := hb1
        have HS : Hid (St B w wx) := HIS.out.trans hst1
        have HX := hid (hst1.cells HIX.out (by omega) (by decide))
        have HV := hid (hst1.cells HIV.out (by omega) (by decide))
        clear hb1 hst1 HIB HIS HIX HIV
        have v0 : wx.cell? ⟨w.heap.size, 0, none⟩ = some (.int .i64 6) := cells_at HV.out 0
        have v3 : wx.cell? ⟨w.heap.size, 3, none⟩ = some (.slice (some ⟨gn, on, none⟩) M c1) := cells_at HV.out 3
        have v5 : wx.cell? ⟨gn, on + q, none⟩ = some (.string (nth ns q)) := (World.cell?_of_block (w := w) (a := ⟨gn, on + q, none⟩) (HS.out.below.block gn hgn)).trans HNB.out
        go_wp2_with fail
        clear v0 v3 v5
        refine (wq_any B _ (nth ns q) HO.out wx HB.out (by have h := HLQ.out; rw [sepT, if_neg H0.out] at h; simp at h ⊢; omega)).mono ?_
        rintro e w2 ⟨rfl, hb2, hst2⟩
        have HB2 : Hid (Bd B _ w2) := hb2
        have HS2 : Hid (St B w w2) := HS.out.trans hst2
        have HX2 := hid (hst2.cells HX.out (by omega) (by decide))
        have HV2 := hid (hst2.cells HV.out (by omega) (by decide))
        clear hb2 hst2 HB HS HX HV
        go_wp2_with fail
        refine (wB B _ 58 w2 HB2.out (by have h := HLQ.out; rw [sepT, if_neg H0.out] at h; simp at h ⊢; omega)).mono ?_
        rintro e w3 ⟨rfl, hb3, hst3⟩
        have HB : Hid (Bd B _ w3) := hb3
        have HS : Hid (St B w w3) := HS2.out.trans hst3
        have HX := hid (hst3.cells HX2.out (by omega) (by decide))
        have HV := hid (hst3.cells HV2.out (by omega) (by decide))
        clear hb3 hst3 HB2 HS2 HX2 HV2
        have u0 : w3.cell? ⟨wr.heap.size, 0, none⟩ = some (.int .i64 kd2) := cells_at HX.out 0
        have u1 : w3.cell? ⟨wr.heap.size, 1, none⟩ = some (.int .i64 x2) := cells_at HX.out 1
        have u2 : w3.cell? ⟨wr.heap.size, 2, none⟩ = some (.string s2) := cells_at HX.out 2
        have u3 : w3.cell? ⟨wr.heap.size, 3, none⟩ = some (.slice a12 l12 c12) := cells_at HX.out 3
        have u4 : w3.cell? ⟨wr.heap.size, 4, none⟩ = some (.slice a22 l22 c22) := cells_at HX.out 4
        go_wp2_with fail
        clear u0 u1 u2 u3 u4
        refine (HC.out w3 _ HS.out.below HB.out (by have h := HLQ.out; rw [sepT, if_neg H0.out] at h; simp at h ⊢; omega)).mono ?_
        rintro e w4 ⟨rfl, hb4, hst4⟩
        have HB4 : Hid (Bd B (acc ++ accT (fun i => qT (nth ns i) ++ [58]) f (q + 1)) w4) := by
          have h : Bd B _ w4 := hb4
          unfold Hid; rw [accT, sepT, if_neg H0.out]; simp at h ⊢; exact h
        have HS4 : Hid (St B w w4) := HS.out.trans hst4
        have HV4 := hid (hst4.cells HV.out (by omega) (by decide))
        clear hb4 hst4 HB HS HX HV
        go_wp2_with fail
        go_roundw
        case rel => exact ⟨q + 1, by omega, by go_num, HB4, HS4, HV4⟩
        case measure => simp [intOf]; omega
    · have hqe : q = M := by omega
      subst hqe
      clear hlt hq
      go_wp2_with fail
      go_end0
      exact ⟨rfl, HQB.out, HQS.out⟩
set_option maxHeartbeats 1000000 in
theorem items_0o (kd x : Int) (s : ByteArray) (a1 : Option Addr) (l1 c1 : Nat) (a2 : Option Addr) (c2 : Nat) (B : Nat) (acc : List UInt8) (w : World) (hBd : Bd B acc w) :
    Calls Tryz.prog 52 #[.pointer (some ⟨B, 0, none⟩), .agg #[.int .i64 kd, .int .i64 x, .string s, .slice a1 l1 c1, .slice a2 0 c2]] w fun e w' => e = .returned (.tuple #[]) ∧ Bd B acc w' ∧ St B w w' := by
  have hBw := hBd.lt
  have HB0 : ∀ o, Bd B acc (w.alloc o) := fun o => hBd.alloc _
  have HS0 : ∀ o, St B w (w.alloc o) := fun o => (St.refl B w).alloc (Nat.le_of_lt hBw) _
  clear hBd
  go_enter Tryz.func52, Tryz.ntmps52
  go_wp2_with fail
  refine wp_loop_rounds 1 ?_
  rw [rounds_succ]
  go_wp2_with fail
  go_end0
  exact ⟨rfl, HB0 _, HS0 _⟩
end Go.Proofs.YtelbjecdbogpcaaGreatDoor.Tree
