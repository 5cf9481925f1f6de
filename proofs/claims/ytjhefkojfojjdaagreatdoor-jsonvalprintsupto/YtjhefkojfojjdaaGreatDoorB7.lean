import Derived.Test.YtjhefkojfojjdaaGreatDoorB5
/-! The text of every value that Check finds good: its items. -/
namespace Go.Proofs.YtjhefkojfojjdaaGreatDoor.Tree
open Go Go.RowKit Go.Maps

/-- The cells of item i of the row at a place of block g. -/
structure ItemAtO (w : World) (g o i : Nat) (kd x : Int) (s : ByteArray) (a1 : Option Addr) (l1 c1 : Nat) (a2 : Option Addr) (l2 c2 : Nat) : Prop where
  f0 : w.cell? ⟨g, o + i * 5, none⟩ = some (.int .i64 kd)
  f1 : w.cell? ⟨g, o + i * 5 + 1, none⟩ = some (.int .i64 x)
  f2 : w.cell? ⟨g, o + i * 5 + 2, none⟩ = some (.string s)
  f3 : w.cell? ⟨g, o + i * 5 + 3, none⟩ = some (.slice a1 l1 c1)
  f4 : w.cell? ⟨g, o + i * 5 + 4, none⟩ = some (.slice a2 l2 c2)
theorem ItemAtO.keep {w w' : World} {g o i : Nat} {kd x : Int} {s : ByteArray} {a1 : Option Addr} {l1 c1 : Nat} {a2 : Option Addr} {l2 c2 : Nat} (h : ItemAtO w g o i kd x s a1 l1 c1 a2 l2 c2) (hk : w'.heap[g]? = w.heap[g]?) : ItemAtO w' g o i kd x s a1 l1 c1 a2 l2 c2 :=
  ⟨(World.cell?_of_block (w := w) hk).trans h.f0, (World.cell?_of_block (w := w) hk).trans h.f1, (World.cell?_of_block (w := w) hk).trans h.f2, (World.cell?_of_block (w := w) hk).trans h.f3, (World.cell?_of_block (w := w) hk).trans h.f4⟩
/-- What the writing of a row asks of its items. -/
def WGoodO (f : Nat → List UInt8) (B : Nat) (w : World) (g o n : Nat) : Prop :=
  ∀ i, i < n → ∃ (kd x : Int) (s : ByteArray) (a1 : Option Addr) (l1 c1 : Nat) (a2 : Option Addr) (l2 c2 : Nat), ItemAtO w g o i kd x s a1 l1 c1 a2 l2 c2 ∧
    ∀ w' acc, Below B w w' → Bd B acc w' → acc.length + (f i).length ≤ 900000000 → Calls Tryz.prog 20 #[.pointer (some ⟨B, 0, none⟩), .agg #[.int .i64 kd, .int .i64 x, .string s, .slice a1 l1 c1, .slice a2 l2 c2]] w' fun e w'' => e = .returned (.tuple #[]) ∧ Bd B (acc ++ f i) w'' ∧ St B w' w''
set_option maxHeartbeats 1000000 in
theorem items_5o (x : Int) (s : ByteArray) (a1 : Option Addr) (l1 c1 : Nat) (g o M : Nat) (c2 : Nat) (f : Nat → List UInt8) (B : Nat) (acc : List UInt8) (w : World) (hBd : Bd B acc w) (hg : g < B) (hM : M ≤ 65536)  (hln : acc.length + (accT (fun _ => []) f M).length ≤ 900000000) (hIt : Hid (WGoodO f B w g o M)) :
    Calls Tryz.prog 35 #[.pointer (some ⟨B, 0, none⟩), .agg #[.int .i64 5, .int .i64 x, .string s, .slice a1 l1 c1, .slice (some ⟨g, o, none⟩) M c2]] w fun e w' => e = .returned (.tuple #[]) ∧ Bd B (acc ++ accT (fun _ => []) f M) w' ∧ St B w w' := by
  have hBw := hBd.lt
  have HB0 : Hid (Bd B acc (w.alloc (.cells #[.int .i64 5, .int .i64 x, .string s, .slice a1 l1 c1, .slice (some ⟨g, o, none⟩) M c2] 25))) := hBd.alloc _
  have HS0 : Hid (St B w (w.alloc (.cells #[.int .i64 5, .int .i64 x, .string s, .slice a1 l1 c1, .slice (some ⟨g, o, none⟩) M c2] 25))) := (St.refl B w).alloc (Nat.le_of_lt hBw) _
  have HX0 : Hid ((w.alloc (.cells #[.int .i64 5, .int .i64 x, .string s, .slice a1 l1 c1, .slice (some ⟨g, o, none⟩) M c2] 25)).heap[w.heap.size]? = some (.cells #[.int .i64 5, .int .i64 x, .string s, .slice a1 l1 c1, .slice (some ⟨g, o, none⟩) M c2] 25)) := box_new w _ _
  have HLN : Hid (acc.length + (accT (fun _ => []) f M).length ≤ 900000000) := hln
  clear hBd hln
  go_enter Tryz.func35, Tryz.ntmps35
  go_wp2_with fail
  generalize hw0 : w.alloc (.cells #[.int .i64 5, .int .i64 x, .string s, .slice a1 l1 c1, .slice (some ⟨g, o, none⟩) M c2] 25) = w0 at *
  clear hw0
  go_loopw [9] (fun i wr => ∃ q : Nat, q ≤ M ∧ i = .int .i64 q ∧ Hid (Bd B (acc ++ accT (fun _ => []) f q) wr) ∧ Hid (St B w wr) ∧ Hid (wr.heap[w.heap.size]? = some (.cells #[.int .i64 5, .int .i64 x, .string s, .slice a1 l1 c1, .slice (some ⟨g, o, none⟩) M c2] 25))) (fun i wr => M - (intOf i).toNat)
  case atStart => exact ⟨0, Nat.zero_le _, rfl, by unfold Hid; rw [accT, List.append_nil]; exact HB0.out, HS0, HX0⟩
  case round =>
    obtain ⟨q, hq, rfl, HQB, HQS, HQX⟩ := hrel
    have hsz := HQS.out.below.size
    by_cases hlt : q < M
    · obtain ⟨kd2, x2, s2, a12, l12, c12, a22, l22, c22, hia, hcall⟩ := hIt.out q hlt
      obtain ⟨z0, z1, z2, z3, z4⟩ := hia.keep (HQS.out.below.block g hg)
      have HC : Hid (∀ w' acc, Below B w w' → Bd B acc w' → acc.length + (f q).length ≤ 900000000 → Calls Tryz.prog 20 #[.pointer (some ⟨B, 0, none⟩), .agg #[.int .i64 kd2, .int .i64 x2, .string s2, .slice a12 l12 c12, .slice a22 l22 c22]] w' fun e w'' => e = .returned (.tuple #[]) ∧ Bd B (acc ++ f q) w'' ∧ St B w' w'') := hcall
      have HLQ : Hid (acc.length + ((accT (fun _ => []) f q).length + (sepT q).length + 0 + (f q).length) ≤ 900000000) := by
        have h1 : (accT (fun _ => []) f (q + 1)).length ≤ (accT (fun _ => []) f M).length := accT_len _ _ (by omega)
        have h2 := HLN.out
        have h3 : (accT (fun _ => []) f (q + 1)).length = (accT (fun _ => []) f q).length + (sepT q).length + 0 + (f q).length := by
          simp only [accT, List.length_append, List.length_nil]
        unfold Hid; omega
      clear hcall hia
      have HIB : Hid (Bd B (acc ++ accT (fun _ => []) f q) (wr.alloc (.cells #[.int .i64 kd2, .int .i64 x2, .string s2, .slice a12 l12 c12, .slice a22 l22 c22] 25))) := HQB.out.alloc _
      have HIS : Hid (St B w (wr.alloc (.cells #[.int .i64 kd2, .int .i64 x2, .string s2, .slice a12 l12 c12, .slice a22 l22 c22] 25))) := HQS.out.alloc (by omega) _
      have HIX : Hid ((wr.alloc (.cells #[.int .i64 kd2, .int .i64 x2, .string s2, .slice a12 l12 c12, .slice a22 l22 c22] 25)).heap[wr.heap.size]? = some (.cells #[.int .i64 kd2, .int .i64 x2, .string s2, .slice a12 l12 c12, .slice a22 l22 c22] 25)) := box_new wr _ _
      have HIV : Hid ((wr.alloc (.cells #[.int .i64 kd2, .int .i64 x2, .string s2, .slice a12 l12 c12, .slice a22 l22 c22] 25)).heap[w.heap.size]? = some (.cells #[.int .i64 5, .int .i64 x, .string s, .slice a1 l1 c1, .slice (some ⟨g, o, none⟩) M c2] 25)) := by unfold Hid; exact (heap_alloc_old wr _ (Array.getElem?_eq_some_iff.1 HQX.out).1).trans HQX.out
      have hwr : w.heap.size < wr.heap.size := (Array.getElem?_eq_some_iff.1 HQX.out).1
      by_cases h0 : q = 0
      · have g0 : ¬ ((q : Int) > 0) := by omega
        have H0 : Hid (q = 0) := h0
        clear h0
        have v0 : wr.cell? ⟨w.heap.size, 0, none⟩ = some (.int .i64 5) := cells_at HQX.out 0
        go_wp2_with fail
        clear z0 z1 z2 z3 z4 v0
        generalize wr.alloc (.cells #[.int .i64 kd2, .int .i64 x2, .string s2, .slice a12 l12 c12, .slice a22 l22 c22] 25) = wx at *
        have HB := HIB
        have HS := HIS
        have HX := HIX
        have HV := HIV
        clear HIB HIS HIX HIV
        refine (HC.out wx _ HS.out.below HB.out (by have h := HLQ.out; rw [sepT, if_pos H0.out] at h; simp at h ⊢; omega)).mono ?_
        rintro e w4 ⟨rfl, hb4, hst4⟩
        have HB4 : Hid (Bd B (acc ++ accT (fun _ => []) f (q + 1)) w4) := by
          have h : Bd B _ w4 := hb4
          unfold Hid; rw [accT, sepT, if_pos H0.out]; simp at h ⊢; exact h
        have HS4 : Hid (St B w w4) := HS.out.trans hst4
        have HV4 := hid (hst4.cells HV.out (by omega) (by decide))
        clear hb4 hst4 HB HS HX HV
        go_wp2_with fail
        go_roundw
        case rel => exact ⟨q + 1, by omega, by go_num, HB4, HS4, HV4⟩
        case measure => simp [intOf]; omega
      · have g0 : (q : Int) > 0 := by omega
        have H0 : Hid (¬ q = 0) := h0
        clear h0
        go_wp2_with fail
        clear z0 z1 z2 z3 z4
        generalize wr.alloc (.cells #[.int .i64 kd2, .int .i64 x2, .string s2, .slice a12 l12 c12, .slice a22 l22 c22] 25) = wy at *
        refine (wB B _ 44 wy HIB.out (by have h := HLQ.out; simp at h ⊢; omega)).mono ?_
        rintro e wx ⟨rfl, hb1, hst1⟩
        have HB : Hid (Bd B _ wx) := hb1
        have HS : Hid (St B w wx) := HIS.out.trans hst1
        have HX := hid (hst1.cells HIX.out (by omega) (by decide))
        have HV := hid (hst1.cells HIV.out (by omega) (by decide))
        clear hb1 hst1 HIB HIS HIX HIV
        have v0 : wx.cell? ⟨w.heap.size, 0, none⟩ = some (.int .i64 5) := cells_at HV.out 0
        have u0 : wx.cell? ⟨wr.heap.size, 0, none⟩ = some (.int .i64 kd2) := cells_at HX.out 0
        have u1 : wx.cell? ⟨wr.heap.size, 1, none⟩ = some (.int .i64 x2) := cells_at HX.out 1
        have u2 : wx.cell? ⟨wr.heap.size, 2, none⟩ = some (.string s2) := cells_at HX.out 2
        have u3 : wx.cell? ⟨wr.heap.size, 3, none⟩ = some (.slice a12 l12 c12) := cells_at HX.out 3
        have u4 : wx.cell? ⟨wr.heap.size, 4, none⟩ = some (.slice a22 l22 c22) := cells_at HX.out 4
        go_wp2_with fail
        clear u0 u1 u2 u3 u4
        clear v0
        refine (HC.out wx _ HS.out.below HB.out (by have h := HLQ.out; rw [sepT, if_neg H0.out] at h; simp at h ⊢; omega)).mono ?_
        rintro e w4 ⟨rfl, hb4, hst4⟩
        have HB4 : Hid (Bd B (acc ++ accT (fun _ => []) f (q + 1)) w4) := by
          have h : Bd B _ w4 := hb4
          unfold Hid; rw [accT, sepT, if_neg H0.out]; simp at h ⊢; exact h
        have HS4 : Hid (St B w w4) := HS.out.trans hst4
        have HV4 := hid (hst4.cells HV.out (by omega) (by decide))
        clear hb4 hst4 HB HS HX HV
        go_wp2_with fail
        go_roundw
        case rel => exact ⟨q + 1, by omega, by go_num, HB4, HS4, HV4⟩
        case measure => simp [intOf]; omega
    · have hqe : q = M := by omega
      subst hqe
      clear hlt hq
      go_wp2_with fail
      go_end0
      exact ⟨rfl, HQB.out, HQS.out⟩
set_option maxHeartbeats 1000000 in
theorem items_6o (x : Int) (s : ByteArray) (gn on c1 : Nat) (ns : List ByteArray) (g o M : Nat) (c2 : Nat) (f : Nat → List UInt8) (B : Nat) (acc : List UInt8) (w : World) (hBd : Bd B acc w) (hg : g < B) (hM : M ≤ 65536) (hgn : gn < B) (hNc : Hid (∀ i, i < M → w.cell? ⟨gn, on + i, none⟩ = some (.string (nth ns i)) ∧ okT (nth ns i))) (hln : acc.length + (accT (fun i => qT (nth ns i) ++ [58]) f M).length ≤ 900000000) (hIt : Hid (WGoodO f B w g o M)) :
    Calls Tryz.prog 35 #[.pointer (some ⟨B, 0, none⟩), .agg #[.int .i64 6, .int .i64 x, .string s, .slice (some ⟨gn, on, none⟩) M c1, .slice (some ⟨g, o, none⟩) M c2]] w fun e w' => e = .returned (.tuple #[]) ∧ Bd B (acc ++ accT (fun i => qT (nth ns i) ++ [58]) f M) w' ∧ St B w w' := by
  have hBw := hBd.lt
  have HB0 : Hid (Bd B acc (w.alloc (.cells #[.int .i64 6, .int .i64 x, .string s, .slice (some ⟨gn, on, none⟩) M c1, .slice (some ⟨g, o, none⟩) M c2] 25))) := hBd.alloc _
  have HS0 : Hid (St B w (w.alloc (.cells #[.int .i64 6, .int .i64 x, .string s, .slice (some ⟨gn, on, none⟩) M c1, .slice (some ⟨g, o, none⟩) M c2] 25))) := (St.refl B w).alloc (Nat.le_of_lt hBw) _
  have HX0 : Hid ((w.alloc (.cells #[.int .i64 6, .int .i64 x, .string s, .slice (some ⟨gn, on, none⟩) M c1, .slice (some ⟨g, o, none⟩) M c2] 25)).heap[w.heap.size]? = some (.cells #[.int .i64 6, .int .i64 x, .string s, .slice (some ⟨gn, on, none⟩) M c1, .slice (some ⟨g, o, none⟩) M c2] 25)) := box_new w _ _
  have HLN : Hid (acc.length + (accT (fun i => qT (nth ns i) ++ [58]) f M).length ≤ 900000000) := hln
  clear hBd hln
  go_enter Tryz.func35, Tryz.ntmps35
  go_wp2_with fail
  generalize hw0 : w.alloc (.cells #[.int .i64 6, .int .i64 x, .string s, .slice (some ⟨gn, on, none⟩) M c1, .slice (some ⟨g, o, none⟩) M c2] 25) = w0 at *
  clear hw0
  go_loopw [9] (fun i wr => ∃ q : Nat, q ≤ M ∧ i = .int .i64 q ∧ Hid (Bd B (acc ++ accT (fun i => qT (nth ns i) ++ [58]) f q) wr) ∧ Hid (St B w wr) ∧ Hid (wr.heap[w.heap.size]? = some (.cells #[.int .i64 6, .int .i64 x, .string s, .slice (some ⟨gn, on, none⟩) M c1, .slice (some ⟨g, o, none⟩) M c2] 25))) (fun i wr => M - (intOf i).toNat)
  case atStart => exact ⟨0, Nat.zero_le _, rfl, by unfold Hid; rw [accT, List.append_nil]; exact HB0.out, HS0, HX0⟩
  case round =>
    obtain ⟨q, hq, rfl, HQB, HQS, HQX⟩ := hrel
    have hsz := HQS.out.below.size
    by_cases hlt : q < M
    · obtain ⟨kd2, x2, s2, a12, l12, c12, a22, l22, c22, hia, hcall⟩ := hIt.out q hlt
      obtain ⟨z0, z1, z2, z3, z4⟩ := hia.keep (HQS.out.below.block g hg)
      have HC : Hid (∀ w' acc, Below B w w' → Bd B acc w' → acc.length + (f q).length ≤ 900000000 → Calls Tryz.prog 20 #[.pointer (some ⟨B, 0, none⟩), .agg #[.int .i64 kd2, .int .i64 x2, .string s2, .slice a12 l12 c12, .slice a22 l22 c22]] w' fun e w'' => e = .returned (.tuple #[]) ∧ Bd B (acc ++ f q) w'' ∧ St B w' w'') := hcall
      have HLQ : Hid (acc.length + ((accT (fun i => qT (nth ns i) ++ [58]) f q).length + (sepT q).length + ((qT (nth ns q)).length + 1) + (f q).length) ≤ 900000000) := by
        have h1 : (accT (fun i => qT (nth ns i) ++ [58]) f (q + 1)).length ≤ (accT (fun i => qT (nth ns i) ++ [58]) f M).length := accT_len _ _ (by omega)
        have h2 := HLN.out
        have h3 : (accT (fun i => qT (nth ns i) ++ [58]) f (q + 1)).length = (accT (fun i => qT (nth ns i) ++ [58]) f q).length + (sepT q).length + ((qT (nth ns q)).length + 1) + (f q).length := by
          simp only [accT, List.length_append, List.length_cons, List.length_nil]
        unfold Hid; omega
      clear hcall hia
      have HIB : Hid (Bd B (acc ++ accT (fun i => qT (nth ns i) ++ [58]) f q) (wr.alloc (.cells #[.int .i64 kd2, .int .i64 x2, .string s2, .slice a12 l12 c12, .slice a22 l22 c22] 25))) := HQB.out.alloc _
      have HIS : Hid (St B w (wr.alloc (.cells #[.int .i64 kd2, .int .i64 x2, .string s2, .slice a12 l12 c12, .slice a22 l22 c22] 25))) := HQS.out.alloc (by omega) _
      have HIX : Hid ((wr.alloc (.cells #[.int .i64 kd2, .int .i64 x2, .string s2, .slice a12 l12 c12, .slice a22 l22 c22] 25)).heap[wr.heap.size]? = some (.cells #[.int .i64 kd2, .int .i64 x2, .string s2, .slice a12 l12 c12, .slice a22 l22 c22] 25)) := box_new wr _ _
      have HIV : Hid ((wr.alloc (.cells #[.int .i64 kd2, .int .i64 x2, .string s2, .slice a12 l12 c12, .slice a22 l22 c22] 25)).heap[w.heap.size]? = some (.cells #[.int .i64 6, .int .i64 x, .string s, .slice (some ⟨gn, on, none⟩) M c1, .slice (some ⟨g, o, none⟩) M c2] 25)) := by unfold Hid; exact (heap_alloc_old wr _ (Array.getElem?_eq_some_iff.1 HQX.out).1).trans HQX.out
      have hwr : w.heap.size < wr.heap.size := (Array.getElem?_eq_some_iff.1 HQX.out).1
      obtain ⟨hc, ho⟩ := hNc.out q hlt
      have HO : Hid (okT (nth ns q)) := ho
      have hgr : gn < wr.heap.size := by omega
      have HNB : Hid (w.cell? ⟨gn, on + q, none⟩ = some (.string (nth ns q))) := hc
      clear hc ho
      by_cases h0 : q = 0
      · have g0 : ¬ ((q : Int) > 0) := by omega
        have H0 : Hid (q = 0) := h0
        clear h0
        have v0 : wr.cell? ⟨w.heap.size, 0, none⟩ = some (.int .i64 6) := cells_at HQX.out 0
        have v3 : wr.cell? ⟨w.heap.size, 3, none⟩ = some (.slice (some ⟨gn, on, none⟩) M c1) := cells_at HQX.out 3
        have v5 : wr.cell? ⟨gn, on + q, none⟩ = some (.string (nth ns q)) := (World.cell?_of_block (w := w) (a := ⟨gn, on + q, none⟩) (HQS.out.below.block gn hgn)).trans HNB.out
        go_wp2_with fail
        clear v0 v3 v5
        clear z0 z1 z2 z3 z4
        generalize wr.alloc (.cells #[.int .i64 kd2, .int .i64 x2, .string s2, .slice a12 l12 c12, .slice a22 l22 c22] 25) = wx at *
        have HB := HIB
        have HS := HIS
        have HX := HIX
        have HV := HIV
        clear HIB HIS HIX HIV
        refine (wq_any B _ (nth ns q) HO.out wx HB.out (by have h := HLQ.out; rw [sepT, if_pos H0.out] at h; simp at h ⊢; omega)).mono ?_
        rintro e w2 ⟨rfl, hb2, hst2⟩
        have HB2 : Hid (Bd B _ w2) := hb2
        have HS2 : Hid (St B w w2) := HS.out.trans hst2
        have HX2 := hid (hst2.cells HX.out (by omega) (by decide))
        have HV2 := hid (hst2.cells HV.out (by omega) (by decide))
        clear hb2 hst2 HB HS HX HV
        go_wp2_with fail
        refine (wB B _ 58 w2 HB2.out (by have h := HLQ.out; rw [sepT, if_pos H0.out] at h; simp at h ⊢; omega)).mono ?_
        rintro e w3 ⟨rfl, hb3, hst3⟩
        have HB : Hid (Bd B _ w3) := hb3
        have HS : Hid (St B w w3) := HS2.out.trans hst3
        have HX := hid (hst3.cells HX2.out (by omega) (by decide))
        have HV := hid (hst3.cells HV2.out (by omega) (by decide))
        clear hb3 hst3 HB2 HS2 HX2 HV2
        have u0 : w3.cell? ⟨wr.heap.size, 0, none⟩ = some (.int .i64 kd2) := cells_at HX.out 0
        have u1 : w3.cell? ⟨wr.heap.size, 1, none⟩ = some (.int .i64 x2) := cells_at HX.out 1
        have u2 : w3.cell? ⟨wr.heap.size, 2, none⟩ = some (.string s2) := cells_at HX.out 2
        have u3 : w3.cell? ⟨wr.heap.size, 3, none⟩ = some (.slice a12 l12 c12) := cells_at HX.out 3
        have u4 : w3.cell? ⟨wr.heap.size, 4, none⟩ = some (.slice a22 l22 c22) := cells_at HX.out 4
        go_wp2_with fail
        clear u0 u1 u2 u3 u4
        refine (HC.out w3 _ HS.out.below HB.out (by have h := HLQ.out; rw [sepT, if_pos H0.out] at h; simp at h ⊢; omega)).mono ?_
        rintro e w4 ⟨rfl, hb4, hst4⟩
        have HB4 : Hid (Bd B (acc ++ accT (fun i => qT (nth ns i) ++ [58]) f (q + 1)) w4) := by
          have h : Bd B _ w4 := hb4
          unfold Hid; rw [accT, sepT, if_pos H0.out]; simp at h ⊢; exact h
        have HS4 : Hid (St B w w4) := HS.out.trans hst4
        have HV4 := hid (hst4.cells HV.out (by omega) (by decide))
        clear hb4 hst4 HB HS HX HV
        go_wp2_with fail
        go_roundw
        case rel => exact ⟨q + 1, by omega, by go_num, HB4, HS4, HV4⟩
        case measure => simp [intOf]; omega
      · have g0 : (q : Int) > 0 := by omega
        have H0 : Hid (¬ q = 0) := h0
        clear h0
        go_wp2_with fail
        clear z0 z1 z2 z3 z4
        generalize wr.alloc (.cells #[.int .i64 kd2, .int .i64 x2, .string s2, .slice a12 l12 c12, .slice a22 l22 c22] 25) = wy at *
        refine (wB B _ 44 wy HIB.out (by have h := HLQ.out; simp at h ⊢; omega)).mono ?_
        rintro e wx ⟨rfl, hb1, hst1⟩
        have HB : Hid (Bd B _ wx) := hb1
        have HS : Hid (St B w wx) := HIS.out.trans hst1
        have HX := hid (hst1.cells HIX.out (by omega) (by decide))
        have HV := hid (hst1.cells HIV.out (by omega) (by decide))
        clear hb1 hst1 HIB HIS HIX HIV
        have v0 : wx.cell? ⟨w.heap.size, 0, none⟩ = some (.int .i64 6) := cells_at HV.out 0
        have v3 : wx.cell? ⟨w.heap.size, 3, none⟩ = some (.slice (some ⟨gn, on, none⟩) M c1) := cells_at HV.out 3
        have v5 : wx.cell? ⟨gn, on + q, none⟩ = some (.string (nth ns q)) := (World.cell?_of_block (w := w) (a := ⟨gn, on + q, none⟩) (HS.out.below.block gn hgn)).trans HNB.out
        go_wp2_with fail
        clear v0 v3 v5
        refine (wq_any B _ (nth ns q) HO.out wx HB.out (by have h := HLQ.out; rw [sepT, if_neg H0.out] at h; simp at h ⊢; omega)).mono ?_
        rintro e w2 ⟨rfl, hb2, hst2⟩
        have HB2 : Hid (Bd B _ w2) := hb2
        have HS2 : Hid (St B w w2) := HS.out.trans hst2
        have HX2 := hid (hst2.cells HX.out (by omega) (by decide))
        have HV2 := hid (hst2.cells HV.out (by omega) (by decide))
        clear hb2 hst2 HB HS HX HV
        go_wp2_with fail
        refine (wB B _ 58 w2 HB2.out (by have h := HLQ.out; rw [sepT, if_neg H0.out] at h; simp at h ⊢; omega)).mono ?_
        rintro e w3 ⟨rfl, hb3, hst3⟩
        have HB : Hid (Bd B _ w3) := hb3
        have HS : Hid (St B w w3) := HS2.out.trans hst3
        have HX := hid (hst3.cells HX2.out (by omega) (by decide))
        have HV := hid (hst3.cells HV2.out (by omega) (by decide))
        clear hb3 hst3 HB2 HS2 HX2 HV2
        have u0 : w3.cell? ⟨wr.heap.size, 0, none⟩ = some (.int .i64 kd2) := cells_at HX.out 0
        have u1 : w3.cell? ⟨wr.heap.size, 1, none⟩ = some (.int .i64 x2) := cells_at HX.out 1
        have u2 : w3.cell? ⟨wr.heap.size, 2, none⟩ = some (.string s2) := cells_at HX.out 2
        have u3 : w3.cell? ⟨wr.heap.size, 3, none⟩ = some (.slice a12 l12 c12) := cells_at HX.out 3
        have u4 : w3.cell? ⟨wr.heap.size, 4, none⟩ = some (.slice a22 l22 c22) := cells_at HX.out 4
        go_wp2_with fail
        clear u0 u1 u2 u3 u4
        refine (HC.out w3 _ HS.out.below HB.out (by have h := HLQ.out; rw [sepT, if_neg H0.out] at h; simp at h ⊢; omega)).mono ?_
        rintro e w4 ⟨rfl, hb4, hst4⟩
        have HB4 : Hid (Bd B (acc ++ accT (fun i => qT (nth ns i) ++ [58]) f (q + 1)) w4) := by
          have h : Bd B _ w4 := hb4
          unfold Hid; rw [accT, sepT, if_neg H0.out]; simp at h ⊢; exact h
        have HS4 : Hid (St B w w4) := HS.out.trans hst4
        have HV4 := hid (hst4.cells HV.out (by omega) (by decide))
        clear hb4 hst4 HB HS HX HV
        go_wp2_with fail
        go_roundw
        case rel => exact ⟨q + 1, by omega, by go_num, HB4, HS4, HV4⟩
        case measure => simp [intOf]; omega
    · have hqe : q = M := by omega
      subst hqe
      clear hlt hq
      go_wp2_with fail
      go_end0
      exact ⟨rfl, HQB.out, HQS.out⟩
set_option maxHeartbeats 1000000 in
theorem items_0o (kd x : Int) (s : ByteArray) (a1 : Option Addr) (l1 c1 : Nat) (a2 : Option Addr) (c2 : Nat) (B : Nat) (acc : List UInt8) (w : World) (hBd : Bd B acc w) :
    Calls Tryz.prog 35 #[.pointer (some ⟨B, 0, none⟩), .agg #[.int .i64 kd, .int .i64 x, .string s, .slice a1 l1 c1, .slice a2 0 c2]] w fun e w' => e = .returned (.tuple #[]) ∧ Bd B acc w' ∧ St B w w' := by
  have hBw := hBd.lt
  have HB0 : ∀ o, Bd B acc (w.alloc o) := fun o => hBd.alloc _
  have HS0 : ∀ o, St B w (w.alloc o) := fun o => (St.refl B w).alloc (Nat.le_of_lt hBw) _
  clear hBd
  go_enter Tryz.func35, Tryz.ntmps35
  go_wp2_with fail
  refine wp_loop_rounds 1 ?_
  rw [rounds_succ]
  go_wp2_with fail
  go_end0
  exact ⟨rfl, HB0 _, HS0 _⟩
end Go.Proofs.YtjhefkojfojjdaaGreatDoor.Tree
/-! The text of every value that Check finds good: the walk down. -/
namespace Go.Proofs.YtjhefkojfojjdaaGreatDoor.Tree
open Go Go.RowKit Go.Maps

mutual
/-- The text of a value. -/
def textT : Tr → List UInt8
  | .node k x s ns its =>
    if k = 3 then Lib.itoa x else if k = 4 then qT s
    else if k = 5 then [91] ++ accT (fun _ => []) (fun i => (textsT its).getD i []) its.length ++ [93]
    else if k = 6 then [123] ++ accT (fun i => qT (nth ns i) ++ [58]) (fun i => (textsT its).getD i []) its.length ++ [125]
    else if k = 1 then [102, 97, 108, 115, 101] else if k = 2 then [116, 114, 117, 101] else [110, 117, 108, 108]
def textsT : List Tr → List (List UInt8)
  | [] => []
  | t :: ts => textT t :: textsT ts
end
theorem textsT_at : {its : List Tr} → {i : Nat} → {u : Tr} → its[i]? = some u → (textsT its).getD i [] = textT u
  | [], i, u, h => by simp at h
  | t :: ts, 0, u, h => by
    obtain rfl : t = u := by simpa using h
    rw [textsT]; rfl
  | t :: ts, i + 1, u, h => by
    rw [textsT]
    exact textsT_at (its := ts) (by simpa using h)
theorem textT_list {x : Int} {s : ByteArray} {ns : List ByteArray} {its : List Tr} : textT (.node 5 x s ns its) = [91] ++ accT (fun _ => []) (fun i => (textsT its).getD i []) its.length ++ [93] := by
  rw [textT]; simp
theorem textT_obj {x : Int} {s : ByteArray} {ns : List ByteArray} {its : List Tr} : textT (.node 6 x s ns its) = [123] ++ accT (fun i => qT (nth ns i) ++ [58]) (fun i => (textsT its).getD i []) its.length ++ [125] := by
  rw [textT]; simp
theorem nth_at {ns : List ByteArray} {i : Nat} (h : i < ns.length) : ns[i]? = some (nth ns i) := by
  unfold nth; rw [List.getD_eq_getElem?_getD, List.getElem?_eq_getElem h]; rfl
theorem nameSum_at {l : List ByteArray} {q : Nat} {u : ByteArray} (h : l[q]? = some u) : (qT u).length + 1 ≤ nameSum l := by
  have h1 := nameSum_step h
  have h2 := nameSum_take l (q + 1)
  omega

set_option maxHeartbeats 1000000 in
theorem write_flat' (k : Int) (T : ByteArray) (hk : k = 0 ∨ k = 1 ∨ k = 2) (hT : ∀ w, Calls Tryz.prog 29 #[.int .i64 k] w fun e w' => e = .returned (.string T) ∧ w' = w) (hTs : T.size ≤ 1000000000) (x : Int) (s : ByteArray) (a1 : Option Addr) (l1 c1 : Nat) (a2 : Option Addr) (l2 c2 : Nat) (B : Nat) (acc : List UInt8) (w : World) (hBd : Bd B acc w) (hl : acc.length ≤ 1000000000) :
    Calls Tryz.prog 20 #[.pointer (some ⟨B, 0, none⟩), .agg #[.int .i64 k, .int .i64 x, .string s, .slice a1 l1 c1, .slice a2 l2 c2]] w fun e w' => e = .returned (.tuple #[]) ∧ Bd B (acc ++ T.data.toList) w' ∧ St B w w' := by
  have hBw := hBd.lt
  have HB0 : ∀ o, Bd B acc (w.alloc o) := fun o => hBd.alloc _
  have HS0 : ∀ o, St B w (w.alloc o) := fun o => (St.refl B w).alloc (Nat.le_of_lt hBw) _
  clear hBd
  rcases hk with rfl | rfl | rfl
  all_goals
    go_enter Tryz.func20, Tryz.ntmps20
    go_wp2_with fail
    refine (hT _).mono ?_
    rintro e w1 ⟨rfl, rfl⟩
    go_wp2_with fail
    refine (wS B acc T _ (HB0 _) hl hTs).mono ?_
    rintro e w2 ⟨rfl, hb2, hs2⟩
    have HB2 : Hid (Bd B (acc ++ T.data.toList) w2) := hb2
    have HS2 : Hid (St B w w2) := (HS0 _).trans hs2
    clear hb2 hs2
    go_wp2_with fail
    go_end0
    exact ⟨rfl, HB2.out, HS2.out⟩
set_option maxHeartbeats 1000000 in
theorem write_int' (x : Int) (h0 : -9223372036854775808 ≤ x) (h1 : x ≤ 9223372036854775807) (s : ByteArray) (a1 : Option Addr) (l1 c1 : Nat) (a2 : Option Addr) (l2 c2 : Nat) (B : Nat) (acc : List UInt8) (w : World) (hE : EnvP w) (hBd : Bd B acc w) (hl : acc.length + (Lib.itoa x).length ≤ 900000000) :
    Calls Tryz.prog 20 #[.pointer (some ⟨B, 0, none⟩), .agg #[.int .i64 3, .int .i64 x, .string s, .slice a1 l1 c1, .slice a2 l2 c2]] w fun e w' => e = .returned (.tuple #[]) ∧ Bd B (acc ++ Lib.itoa x) w' ∧ St B w w' := by
  have hBw := hBd.lt
  have HB0 : ∀ o, Bd B acc (w.alloc o) := fun o => hBd.alloc _
  have HS0 : ∀ o, St B w (w.alloc o) := fun o => (St.refl B w).alloc (Nat.le_of_lt hBw) _
  have hT : ∀ o, Lib.TabIs Tryz.prog (w.alloc o) "internal/strconv.uint64pow10" .u64 Lib.pow10Tab := fun o => tab_below hE.tab ((Below.refl w.heap.size w).alloc (Nat.le_refl _) _) hE.big
  clear hBd
  go_enter Tryz.func20, Tryz.ntmps20
  go_wp2_with fail
  refine (fmt_any x h0 h1 _ (hT _)).mono ?_
  rintro e w1 ⟨rfl, hb1⟩
  have HB1 : Hid (Bd B acc w1) := (HB0 _).keep hb1
  have HS1 : Hid (St B w w1) := (HS0 _).trans (St.of hb1 (by simp; omega))
  clear hb1
  go_wp2_with fail
  refine (wS B acc _ w1 HB1.out (by omega) (by show (Lib.itoa x).toArray.size ≤ _; rw [List.size_toArray]; omega)).mono ?_
  rintro e w2 ⟨rfl, hb2, hs2⟩
  have HB2 : Hid (Bd B (acc ++ Lib.itoa x) w2) := hb2
  have HS2 : Hid (St B w w2) := HS1.out.trans hs2
  clear hb2 hs2
  go_wp2_with fail
  go_end0
  exact ⟨rfl, HB2.out, HS2.out⟩
set_option maxHeartbeats 1000000 in
theorem write_text' (x : Int) (s : ByteArray) (hs : okT s) (a1 : Option Addr) (l1 c1 : Nat) (a2 : Option Addr) (l2 c2 : Nat) (B : Nat) (acc : List UInt8) (w : World) (hBd : Bd B acc w) (hl : acc.length ≤ 900000000) :
    Calls Tryz.prog 20 #[.pointer (some ⟨B, 0, none⟩), .agg #[.int .i64 4, .int .i64 x, .string s, .slice a1 l1 c1, .slice a2 l2 c2]] w fun e w' => e = .returned (.tuple #[]) ∧ Bd B (acc ++ qT s) w' ∧ St B w w' := by
  have hBw := hBd.lt
  have HB0 : ∀ o, Bd B acc (w.alloc o) := fun o => hBd.alloc _
  have HS0 : ∀ o, St B w (w.alloc o) := fun o => (St.refl B w).alloc (Nat.le_of_lt hBw) _
  clear hBd
  go_enter Tryz.func20, Tryz.ntmps20
  go_wp2_with fail
  refine (wq_any B acc s hs _ (HB0 _) hl).mono ?_
  rintro e w2 ⟨rfl, hb2, hs2⟩
  have HB2 : Hid (Bd B (acc ++ qT s) w2) := hb2
  have HS2 : Hid (St B w w2) := (HS0 _).trans hs2
  clear hb2 hs2
  go_wp2_with fail
  go_end0
  exact ⟨rfl, HB2.out, HS2.out⟩

/-- The value lies in blocks below those of w0; it is written at the end of the builder B, which is younger. -/
theorem write_any (t : Tr) (d : Nat) (cs : List Value) (w0 : World) (h : checkT d t = 0) (hV : VRep w0 t cs) (hR : RangeT t) (hl : lenT t ≤ 65536) (w : World) (B : Nat) (acc : List UInt8) (hB : w0.heap.size ≤ B) (hb : Below w0.heap.size w0 w) (h8 : 8 ≤ w0.heap.size) (hE : EnvP w) (hBd : Bd B acc w) (hln : acc.length + (textT t).length ≤ 900000000) :
    Calls Tryz.prog 20 #[.pointer (some ⟨B, 0, none⟩), .agg cs.toArray] w fun e w' => e = .returned (.tuple #[]) ∧ Bd B (acc ++ textT t) w' ∧ St B w w' := by
  match t, h, hV, hR, hl, hln with
  | .node k x s ns its, h, hV, hR, hl, hln =>
    unfold VRep at hV
    unfold RangeT at hR
    obtain ⟨nm, a, c, rfl, hn, hc, hI⟩ := hV
    obtain ⟨an, cn, rfl, -, hn2⟩ := id hn
    obtain ⟨hci, hcn⟩ := check_items h
    obtain ⟨ha1, ha2, ha3, ha4, ha5, ha6⟩ := aloneT_ok (check_zero h).1
    have items : ∀ (b o : Nat), VRepL w0 b o its → lenTL its ≤ 65536 → b < w0.heap.size → ∀ w1, Below B w w1 → WGoodO (fun i => (textsT its).getD i []) B w1 b o its.length := fun b o hL hl' hbb w1 hw1 i hi => by
      obtain ⟨u, hu⟩ : ∃ u, its[i]? = some u := ⟨_, List.getElem?_eq_getElem hi⟩
      obtain ⟨ds, h1, h2⟩ := VRepL.at its o i u hL hu
      have h2' := h2
      obtain ⟨k2, x2, s2, an2, ln2, cn2, ai2, li2, ci2, rfl⟩ := vrep_five h2
      have hb1 : Below w0.heap.size w0 w1 := hb.trans (hw1.mono hB)
      refine ⟨k2, x2, s2, an2, ln2, cn2, ai2, li2, ci2, ⟨?_, ?_, ?_, ?_, ?_⟩, fun w' acc' hw' hbd' hl2 => ?_⟩
      · exact stay hb1 (by simpa using h1 0 _ rfl)
      · exact stay hb1 (h1 1 _ rfl)
      · exact stay hb1 (h1 2 _ rfl)
      · exact stay hb1 (h1 3 _ rfl)
      · exact stay hb1 (h1 4 _ rfl)
      · have hg := textsT_at hu
        simp only [hg] at hl2 ⊢
        have hlt : SizeOf.sizeOf u < SizeOf.sizeOf its := tr_lt hu
        have hb2 : Below w0.heap.size w0 w' := hb1.trans (hw'.mono hB)
        exact write_any u (d + 1) _ w0 (hci u (List.mem_of_getElem? hu)) h2' (RangeL.at hR.2 hu) (by have := lenTL_at hu; omega) w' B acc' hB hb2 h8 ((hE.below hw1 (by omega)).below hw' (by omega)) hbd' hl2
    rcases seven ha2 ha3 with rfl | rfl | rfl | rfl | rfl | rfl | rfl
    · rw [show textT (.node 0 x s ns its) = [110, 117, 108, 108] by rw [textT]; simp] at hln ⊢
      exact write_flat' 0 ⟨#[110, 117, 108, 108]⟩ (by decide) const_null (by decide) x s _ _ _ _ _ _ B acc w hBd (by omega)
    · rw [show textT (.node 1 x s ns its) = [102, 97, 108, 115, 101] by rw [textT]; simp] at hln ⊢
      exact write_flat' 1 ⟨#[102, 97, 108, 115, 101]⟩ (by decide) const_false (by decide) x s _ _ _ _ _ _ B acc w hBd (by omega)
    · rw [show textT (.node 2 x s ns its) = [116, 114, 117, 101] by rw [textT]; simp] at hln ⊢
      exact write_flat' 2 ⟨#[116, 114, 117, 101]⟩ (by decide) const_true (by decide) x s _ _ _ _ _ _ B acc w hBd (by omega)
    · rw [show textT (.node 3 x s ns its) = Lib.itoa x by rw [textT]; simp] at hln ⊢
      exact write_int' x hR.1.1 hR.1.2 s _ _ _ _ _ _ B acc w hE hBd hln
    · rw [show textT (.node 4 x s ns its) = qT s by rw [textT]; simp] at hln ⊢
      rw [show lenT (.node 4 x s ns its) = (qT s).length by rw [lenT]; simp] at hl
      exact write_text' x s ⟨by have := qT_len s; omega, ha5⟩ _ _ _ _ _ _ B acc w hBd (by omega)
    · rw [lenT_nest (.inl rfl)] at hl
      rw [textT_list] at hln ⊢
      refine write_nest 5 91 93 (Or.inl ⟨rfl, rfl, rfl⟩) x s an ns.length cn a its.length c _ B acc w hBd hln (fun w' hst hbd => ?_)
      rcases hI with h0 | ⟨b, o, rfl, hbb, hL⟩
      · subst h0
        have := items_0o 5 x s an ns.length cn a c B (acc ++ [91]) w' hbd
        simp only [List.length_nil]
        rw [accT, List.append_nil]
        exact this
      · exact items_5o x s an ns.length cn b o its.length c _ B (acc ++ [91]) w' hbd (by omega) (by omega) (by simp at hln ⊢; omega) (hid_e (items b o hL (by omega) hbb w' hst.below))
    · rw [lenT_nest (.inr rfl)] at hl
      rw [textT_obj] at hln ⊢
      have hnm := ha6 rfl
      rw [hnm]
      refine write_nest 6 123 125 (Or.inr ⟨rfl, rfl, rfl⟩) x s an its.length cn a its.length c _ B acc w hBd hln (fun w' hst hbd => ?_)
      rcases hI with h0 | ⟨b, o, rfl, hbb, hL⟩
      · subst h0
        have := items_0o 6 x s an 0 cn a c B (acc ++ [123]) w' hbd
        simp only [List.length_nil]
        rw [accT, List.append_nil]
        exact this
      · by_cases hz : its.length = 0
        · rw [hz]
          have := items_0o 6 x s an 0 cn (some ⟨b, o, none⟩) c B (acc ++ [123]) w' hbd
          rw [accT, List.append_nil]
          exact this
        · obtain ⟨gn, on, rfl, hgn, hrd⟩ := hn2.resolve_left (by intro e; subst e; simp at hnm; omega)
          have hb1 : Below w0.heap.size w0 w' := hb.trans (hst.below.mono hB)
          exact items_6o x s gn on cn ns b o its.length c _ B (acc ++ [123]) w' hbd (by omega) (by omega) (by omega) (hid_e (fun i hi => ⟨stay hb1 (hrd i _ (nth_at (by omega))), by have := nameSum_at (nth_at (ns := ns) (i := i) (by omega)); have := qT_len (nth ns i); omega, hcn _ (List.mem_of_getElem? (nth_at (by omega)))⟩)) (by simp at hln ⊢; omega) (hid_e (items b o hL (by omega) hbb w' hst.below))
termination_by SizeOf.sizeOf t
decreasing_by simp only [Tr.node.sizeOf_spec]; omega
end Go.Proofs.YtjhefkojfojjdaaGreatDoor.Tree
