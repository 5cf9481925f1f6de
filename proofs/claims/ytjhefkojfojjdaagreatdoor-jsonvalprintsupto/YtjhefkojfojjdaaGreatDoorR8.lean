import Derived.Test.YtjhefkojfojjdaaGreatDoorR7
import Derived.Test.YtjhefkojfojjdaaGreatDoorR3
import Derived.Test.YtjhefkojfojjdaaGreatDoorB8
/-! The document's Print and Size of every value. -/
namespace Go.Proofs.YtjhefkojfojjdaaGreatDoor.Tree
open Go Go.RowKit

theorem texts_sum : (its : List Tr) → (∀ u ∈ its, (textT u).length = lenT u) → upTo (fun i => ((textsT its).getD i []).length) its.length = lenTL its
  | [], _ => by rw [lenTL]; rfl
  | t :: ts, h => by
    rw [List.length_cons, upTo_shift, textsT, lenTL]
    have h1 := texts_sum ts (fun u hu => h u (.tail _ hu))
    have h2 := h t (.head _)
    simp only [List.getD_cons_zero, List.getD_cons_succ]
    omega
theorem textT_len (t : Tr) (d : Nat) (h : checkT d t = 0) : (textT t).length = lenT t := by
  match t, h with
  | .node k x s ns its, h =>
    obtain ⟨hci, hcn⟩ := check_items h
    obtain ⟨h0, h06, -⟩ := check_zero h
    obtain ⟨ha1, ha2, ha3, ha4, ha5, ha6⟩ := aloneT_ok h0
    have sub : ∀ u ∈ its, (textT u).length = lenT u := fun u hu => by
      obtain ⟨i, hi⟩ := List.getElem?_of_mem hu
      have hlt : SizeOf.sizeOf u < SizeOf.sizeOf its := tr_lt hi
      exact textT_len u (d + 1) (hci u hu)
    rcases seven ha2 ha3 with rfl | rfl | rfl | rfl | rfl | rfl | rfl
    · rw [textT, lenT]; simp
    · rw [textT, lenT]; simp
    · rw [textT, lenT]; simp
    · rw [textT, lenT]; simp
    · rw [textT, lenT]; simp
    · have hn : ns = [] := by
        unfold keepsB at ha4
        simp only [Bool.and_eq_true, Bool.or_eq_true, beq_iff_eq] at ha4
        rcases ha4.1.2 with h4 | h4
        · exact List.eq_nil_of_length_eq_zero (by omega)
        · omega
      subst hn
      rw [textT_list, lenT_nest (.inl rfl), nameSum]
      simp only [List.length_append, List.length_cons, List.length_nil]
      rw [accT_length]
      have e : upTo (fun i => ([] : List UInt8).length + ((textsT its).getD i []).length) its.length = lenTL its := by
        rw [← texts_sum its sub]
        exact upTo_eq _ (fun i hi => by simp)
      rw [e]
      omega
    · rw [textT_obj, lenT_nest (.inr rfl)]
      simp only [List.length_append, List.length_cons, List.length_nil]
      rw [accT_length]
      have hnl := ha6 rfl
      have e : upTo (fun i => (qT (nth ns i) ++ [58]).length + ((textsT its).getD i []).length) its.length = nameSum ns + lenTL its := by
        refine (upTo_add (fun i => (qT (nth ns i) ++ [58]).length) (fun i => ((textsT its).getD i []).length) its.length).trans ?_
        rw [texts_sum its sub, nameSum_upTo, hnl]
        congr 1
        exact upTo_eq _ (fun i hi => by unfold nameLen; simp)
      rw [e]
      omega
termination_by SizeOf.sizeOf t
decreasing_by simp only [Tr.node.sizeOf_spec]; omega

/-- A text that stands in the program, as bytes: the row is marked. -/
theorem conv_const (W : World) (B n : Nat) (cur : Array Value) (h : W.heap[B]? = some (.cells cur 5 (0, 0))) : (convert 40 40 (.slice (some ⟨B, 0, none⟩) n n)).run Tryz.prog W = .ok (.slice (some ⟨B, 0, none⟩) n n) (W.freeze ⟨B, cur.size, none⟩ 1) := by
  have hsh : W.shape? B = some (5, cur.size) := by simp [World.shape?, h]
  simp [convert, run_underlying Tryz.underlying40, run_underlying Tryz.underlying5, markStringish, hsh, Result.andThen]
theorem freeze_cell (W : World) (B n : Nat) (p : Addr) : (W.freeze ⟨B, n, none⟩ 1).cell? p = W.cell? p := by
  unfold World.cell? World.freeze
  by_cases e : p.block = B
  · subst e
    cases h : W.heap[p.block]? with
    | none => simp [Array.getElem?_modify, h]
    | some o => cases o <;> simp [Array.getElem?_modify, h]
  · simp [Array.getElem?_modify, Ne.symm e]
theorem freeze_below {w W : World} {B n : Nat} (h : Below w.heap.size w W) (hB : w.heap.size ≤ B) : Below w.heap.size w (W.freeze ⟨B, n, none⟩ 1) := by
  refine ⟨h.os, h.tape, h.output, ?_, fun k hk => ?_⟩
  · have : (W.freeze ⟨B, n, none⟩ 1).heap.size = W.heap.size := by simp [World.freeze]
    rw [this]; exact h.size
  · have e : B ≠ k := by omega
    rw [← h.block k hk]
    simp [World.freeze, Array.getElem?_modify, e]
theorem reads_freeze {W : World} {v : Value} {l : List UInt8} {B n : Nat} (h : ReadsB W v l) : ReadsB (W.freeze ⟨B, n, none⟩ 1) v l := by
  obtain ⟨b, o, c, e, hc⟩ := h
  exact ⟨b, o, c, e, fun j u hu => by rw [freeze_cell]; exact hc j u hu⟩
set_option maxHeartbeats 2000000 in
set_option maxRecDepth 100000 in
theorem written_null (x : Int) (s : ByteArray) (a1 : Option Addr) (l1 c1 : Nat) (a2 : Option Addr) (l2 c2 : Nat) (w : World) :
    Calls Tryz.prog 22 #[.agg #[.int .i64 0, .int .i64 x, .string s, .slice a1 l1 c1, .slice a2 l2 c2]] w fun e w' => (∃ v, e = .returned v ∧ ReadsB w' v [110, 117, 108, 108]) ∧ Below w.heap.size w w' := by
  have hB2 : Below w.heap.size w ((w.alloc (.cells #[.int .i64 0, .int .i64 x, .string s, .slice a1 l1 c1, .slice a2 l2 c2] 25)).alloc (.cells #[.int .u8 110, .int .u8 117, .int .u8 108, .int .u8 108] 5)) := ((Below.refl _ w).alloc (Nat.le_refl _) _).alloc (by simp) _
  have hrd : ReadsB ((w.alloc (.cells #[.int .i64 0, .int .i64 x, .string s, .slice a1 l1 c1, .slice a2 l2 c2] 25)).alloc (.cells #[.int .u8 110, .int .u8 117, .int .u8 108, .int .u8 108] 5)) (.slice (some ⟨w.heap.size + 1, 0, none⟩) 4 4) [110, 117, 108, 108] := by
    have h := own_readsB (buildB (w.alloc (.cells #[.int .i64 0, .int .i64 x, .string s, .slice a1 l1 c1, .slice a2 l2 c2] 25)) [110, 117, 108, 108] (by decide))
    rw [World.size_alloc] at h
    exact h
  have hcv := conv_const ((w.alloc (.cells #[.int .i64 0, .int .i64 x, .string s, .slice a1 l1 c1, .slice a2 l2 c2] 25)).alloc (.cells #[.int .u8 110, .int .u8 117, .int .u8 108, .int .u8 108] 5)) (w.heap.size + 1) 4 #[.int .u8 110, .int .u8 117, .int .u8 108, .int .u8 108] (new2 w _ _)
  have hr2 := reads_freeze (B := w.heap.size + 1) (n := (#[.int .u8 110, .int .u8 117, .int .u8 108, .int .u8 108] : Array Value).size) hrd
  have hb2 := freeze_below (B := w.heap.size + 1) (n := (#[.int .u8 110, .int .u8 117, .int .u8 108, .int .u8 108] : Array Value).size) hB2 (by omega)
  go_enter Tryz.func22, Tryz.ntmps22
  go_wp2_with fail
  try (rw [hcv]; go_wp2_with fail)
  go_ret
  exact ⟨⟨_, rfl, hr2⟩, hb2⟩
set_option maxHeartbeats 2000000 in
set_option maxRecDepth 100000 in
theorem written_false (x : Int) (s : ByteArray) (a1 : Option Addr) (l1 c1 : Nat) (a2 : Option Addr) (l2 c2 : Nat) (w : World) :
    Calls Tryz.prog 22 #[.agg #[.int .i64 1, .int .i64 x, .string s, .slice a1 l1 c1, .slice a2 l2 c2]] w fun e w' => (∃ v, e = .returned v ∧ ReadsB w' v [102, 97, 108, 115, 101]) ∧ Below w.heap.size w w' := by
  have hB2 : Below w.heap.size w ((w.alloc (.cells #[.int .i64 1, .int .i64 x, .string s, .slice a1 l1 c1, .slice a2 l2 c2] 25)).alloc (.cells #[.int .u8 102, .int .u8 97, .int .u8 108, .int .u8 115, .int .u8 101] 5)) := ((Below.refl _ w).alloc (Nat.le_refl _) _).alloc (by simp) _
  have hrd : ReadsB ((w.alloc (.cells #[.int .i64 1, .int .i64 x, .string s, .slice a1 l1 c1, .slice a2 l2 c2] 25)).alloc (.cells #[.int .u8 102, .int .u8 97, .int .u8 108, .int .u8 115, .int .u8 101] 5)) (.slice (some ⟨w.heap.size + 1, 0, none⟩) 5 5) [102, 97, 108, 115, 101] := by
    have h := own_readsB (buildB (w.alloc (.cells #[.int .i64 1, .int .i64 x, .string s, .slice a1 l1 c1, .slice a2 l2 c2] 25)) [102, 97, 108, 115, 101] (by decide))
    rw [World.size_alloc] at h
    exact h
  have hcv := conv_const ((w.alloc (.cells #[.int .i64 1, .int .i64 x, .string s, .slice a1 l1 c1, .slice a2 l2 c2] 25)).alloc (.cells #[.int .u8 102, .int .u8 97, .int .u8 108, .int .u8 115, .int .u8 101] 5)) (w.heap.size + 1) 5 #[.int .u8 102, .int .u8 97, .int .u8 108, .int .u8 115, .int .u8 101] (new2 w _ _)
  have hr2 := reads_freeze (B := w.heap.size + 1) (n := (#[.int .u8 102, .int .u8 97, .int .u8 108, .int .u8 115, .int .u8 101] : Array Value).size) hrd
  have hb2 := freeze_below (B := w.heap.size + 1) (n := (#[.int .u8 102, .int .u8 97, .int .u8 108, .int .u8 115, .int .u8 101] : Array Value).size) hB2 (by omega)
  go_enter Tryz.func22, Tryz.ntmps22
  go_wp2_with fail
  try (rw [hcv]; go_wp2_with fail)
  go_ret
  exact ⟨⟨_, rfl, hr2⟩, hb2⟩
set_option maxHeartbeats 2000000 in
set_option maxRecDepth 100000 in
theorem written_true (x : Int) (s : ByteArray) (a1 : Option Addr) (l1 c1 : Nat) (a2 : Option Addr) (l2 c2 : Nat) (w : World) :
    Calls Tryz.prog 22 #[.agg #[.int .i64 2, .int .i64 x, .string s, .slice a1 l1 c1, .slice a2 l2 c2]] w fun e w' => (∃ v, e = .returned v ∧ ReadsB w' v [116, 114, 117, 101]) ∧ Below w.heap.size w w' := by
  have hB2 : Below w.heap.size w ((w.alloc (.cells #[.int .i64 2, .int .i64 x, .string s, .slice a1 l1 c1, .slice a2 l2 c2] 25)).alloc (.cells #[.int .u8 116, .int .u8 114, .int .u8 117, .int .u8 101] 5)) := ((Below.refl _ w).alloc (Nat.le_refl _) _).alloc (by simp) _
  have hrd : ReadsB ((w.alloc (.cells #[.int .i64 2, .int .i64 x, .string s, .slice a1 l1 c1, .slice a2 l2 c2] 25)).alloc (.cells #[.int .u8 116, .int .u8 114, .int .u8 117, .int .u8 101] 5)) (.slice (some ⟨w.heap.size + 1, 0, none⟩) 4 4) [116, 114, 117, 101] := by
    have h := own_readsB (buildB (w.alloc (.cells #[.int .i64 2, .int .i64 x, .string s, .slice a1 l1 c1, .slice a2 l2 c2] 25)) [116, 114, 117, 101] (by decide))
    rw [World.size_alloc] at h
    exact h
  have hcv := conv_const ((w.alloc (.cells #[.int .i64 2, .int .i64 x, .string s, .slice a1 l1 c1, .slice a2 l2 c2] 25)).alloc (.cells #[.int .u8 116, .int .u8 114, .int .u8 117, .int .u8 101] 5)) (w.heap.size + 1) 4 #[.int .u8 116, .int .u8 114, .int .u8 117, .int .u8 101] (new2 w _ _)
  have hr2 := reads_freeze (B := w.heap.size + 1) (n := (#[.int .u8 116, .int .u8 114, .int .u8 117, .int .u8 101] : Array Value).size) hrd
  have hb2 := freeze_below (B := w.heap.size + 1) (n := (#[.int .u8 116, .int .u8 114, .int .u8 117, .int .u8 101] : Array Value).size) hB2 (by omega)
  go_enter Tryz.func22, Tryz.ntmps22
  go_wp2_with fail
  try (rw [hcv]; go_wp2_with fail)
  go_ret
  exact ⟨⟨_, rfl, hr2⟩, hb2⟩
set_option maxHeartbeats 2000000 in
set_option maxRecDepth 100000 in
theorem written_int (x : Int) (h0 : -9223372036854775808 ≤ x) (h1 : x ≤ 9223372036854775807) (s : ByteArray) (a1 : Option Addr) (l1 c1 : Nat) (a2 : Option Addr) (l2 c2 : Nat) (w : World) :
    Calls Tryz.prog 22 #[.agg #[.int .i64 3, .int .i64 x, .string s, .slice a1 l1 c1, .slice a2 l2 c2]] w fun e w' => (∃ v, e = .returned v ∧ ReadsB w' v (Lib.itoa x)) ∧ Below w.heap.size w w' := by
  have hcall := fun p => hid_e (digits_code x h0 h1 (w.alloc p))
  obtain ⟨l, hl⟩ : ∃ l, Hid (Lib.itoa x = l) := ⟨_, hid_e rfl⟩
  rw [hl.out] at hcall ⊢
  go_enter Tryz.func22, Tryz.ntmps22
  go_wp2_with fail
  go_fit (hcall _).out
  rintro e w1 ⟨rfl, hb⟩
  have hbw := below_box hb
  have hcv : (convert 9 40 (.string ⟨l.toArray⟩)).run Tryz.prog w1 = .ok (.slice (some ⟨w1.heap.size, 0, none⟩) (⟨l.toArray⟩ : ByteArray).size (grownCap w1 (⟨l.toArray⟩ : ByteArray).size 0 5)) (Lib.bytesWorld w1 5 ⟨l.toArray⟩) :=
    Lib.run_convert_string_bytes w1 9 40 5 ⟨l.toArray⟩ Tryz.underlying9 Tryz.underlying40 Tryz.underlying5
  rw [show (⟨l.toArray⟩ : ByteArray).size = l.length by show l.toArray.size = _; simp] at hcv
  have hrd := bytesW_readsB w1 l (grownCap w1 l.length 0 5)
  have hbb := hbw.trans ((bytesW_below w1 ⟨l.toArray⟩).mono hbw.size)
  generalize Lib.bytesWorld w1 5 ⟨l.toArray⟩ = W2 at hcv hrd hbb
  clear hb hcall
  go_wp2_with fail
  try (rw [hcv]; go_wp2_with fail)
  go_ret
  exact ⟨⟨_, rfl, hrd⟩, hbb⟩
set_option maxHeartbeats 2000000 in
set_option maxRecDepth 100000 in
theorem written_text (x : Int) (s : ByteArray) (hs : s.size ≤ 1000000000) (a1 : Option Addr) (l1 c1 : Nat) (a2 : Option Addr) (l2 c2 : Nat) (w : World) :
    Calls Tryz.prog 22 #[.agg #[.int .i64 4, .int .i64 x, .string s, .slice a1 l1 c1, .slice a2 l2 c2]] w fun e w' => (∃ v, e = .returned v ∧ ReadsB w' v (qT s)) ∧ Below w.heap.size w w' := by
  have hcall := fun p => hid_e (quoted_code s hs (w.alloc p))
  obtain ⟨l, hl⟩ : ∃ l, Hid (qT s = l) := ⟨_, hid_e rfl⟩
  rw [hl.out] at hcall ⊢
  go_enter Tryz.func22, Tryz.ntmps22
  go_wp2_with fail
  go_fit (hcall _).out
  rintro e w1 ⟨rfl, hb⟩
  have hbw := below_box hb
  have hcv : (convert 9 40 (.string ⟨l.toArray⟩)).run Tryz.prog w1 = .ok (.slice (some ⟨w1.heap.size, 0, none⟩) (⟨l.toArray⟩ : ByteArray).size (grownCap w1 (⟨l.toArray⟩ : ByteArray).size 0 5)) (Lib.bytesWorld w1 5 ⟨l.toArray⟩) :=
    Lib.run_convert_string_bytes w1 9 40 5 ⟨l.toArray⟩ Tryz.underlying9 Tryz.underlying40 Tryz.underlying5
  rw [show (⟨l.toArray⟩ : ByteArray).size = l.length by show l.toArray.size = _; simp] at hcv
  have hrd := bytesW_readsB w1 l (grownCap w1 l.length 0 5)
  have hbb := hbw.trans ((bytesW_below w1 ⟨l.toArray⟩).mono hbw.size)
  generalize Lib.bytesWorld w1 5 ⟨l.toArray⟩ = W2 at hcv hrd hbb
  clear hb hcall
  go_wp2_with fail
  try (rw [hcv]; go_wp2_with fail)
  go_ret
  exact ⟨⟨_, rfl, hrd⟩, hbb⟩

theorem written_any (t : Tr) (d : Nat) (cs : List Value) (w : World) (h : checkT d t = 0) (hV : VRep w t cs) (hS : SmallT t) (hR : RangeT t) (hl : lenT t ≤ 1000000000) :
    Calls Tryz.prog 22 #[.agg cs.toArray] w fun e w' => (∃ v, e = .returned v ∧ ReadsB w' v (textT t)) ∧ Below w.heap.size w w' := by
  match t, h, hV, hS, hR, hl with
  | .node k x s ns its, h, hV, hS, hR, hl =>
    have htl := textT_len _ d h
    unfold VRep at hV
    unfold SmallT at hS
    unfold RangeT at hR
    obtain ⟨nm, a, c, rfl, hn, hc, hI⟩ := hV
    obtain ⟨an, cn, rfl, -, -⟩ := id hn
    obtain ⟨hs1, hs2, hs3, hs4, hs5⟩ := hS
    obtain ⟨hci, hcn⟩ := check_items h
    obtain ⟨ha1, ha2, ha3, ha4, ha5, ha6⟩ := aloneT_ok (check_zero h).1
    have items : lenTL its ≤ 1000000000 → WrittenOks its := fun hli i u hu ds w'' h1 => by
      have hlt : SizeOf.sizeOf u < SizeOf.sizeOf its := tr_lt hu
      exact written_any u (d + 1) ds w'' (hci u (List.mem_of_getElem? hu)) h1 (SmallL.at hs5 hu) (RangeL.at hR.2 hu) (by have := lenTL_at hu; omega)
    rcases seven ha2 ha3 with rfl | rfl | rfl | rfl | rfl | rfl | rfl
    · rw [show textT (.node 0 x s ns its) = [110, 117, 108, 108] by rw [textT]; simp]
      exact written_null x s _ _ _ _ _ _ w
    · rw [show textT (.node 1 x s ns its) = [102, 97, 108, 115, 101] by rw [textT]; simp]
      exact written_false x s _ _ _ _ _ _ w
    · rw [show textT (.node 2 x s ns its) = [116, 114, 117, 101] by rw [textT]; simp]
      exact written_true x s _ _ _ _ _ _ w
    · rw [show textT (.node 3 x s ns its) = Lib.itoa x by rw [textT]; simp]
      exact written_int x hR.1.1 hR.1.2 s _ _ _ _ _ _ w
    · rw [show textT (.node 4 x s ns its) = qT s by rw [textT]; simp]
      rw [show lenT (.node 4 x s ns its) = (qT s).length by rw [lenT]; simp] at hl
      exact written_text x s (by have := qT_len s; omega) _ _ _ _ _ _ w
    · rw [lenT_nest (.inl rfl)] at hl
      exact written_5 x s an cn ns a c its w (by omega) (by rw [htl, lenT_nest (.inl rfl)]; exact hl) (hid_e hI) (hid_e (items (by omega)))
    · rw [lenT_nest (.inr rfl)] at hl
      have hnm := ha6 rfl
      have hn' : Reads w (.slice an its.length cn) ns := by rw [← hnm]; exact hn
      have := written_6 x s an cn ns a c its w (hid_e hnm) (hid_e (fun n hn' => by
        obtain ⟨i, hi⟩ := List.getElem?_of_mem hn'
        have := nameSum_at hi
        have := qT_len n
        omega)) (by omega) (by rw [htl, lenT_nest (.inr rfl)]; exact hl) (hid_e hn') (hid_e hI) (hid_e (items (by omega)))
      unfold five
      rw [hnm]
      exact this
termination_by SizeOf.sizeOf t
decreasing_by simp only [Tr.node.sizeOf_spec]; omega

theorem conv_reads {w : World} {v : Value} {l : List UInt8} (h : ReadsB w v l) : (convert 40 9 v).run Tryz.prog w = .ok (.string ⟨l.toArray⟩) w ∧ ∃ a c, v = .slice a l.length c := by
  obtain ⟨b, o, c, rfl, hc⟩ := h
  refine ⟨run_convert_bytes_back w 40 9 5 ⟨b, o, none⟩ c l Tryz.underlying40 Tryz.underlying5 Tryz.underlying9 (fun j hj => ?_), _, _, rfl⟩
  rw [add_off]
  exact hc j _ (by simp [Lib.byteCells, hj])
set_option maxHeartbeats 2000000 in
set_option maxRecDepth 100000 in
theorem ref_print (t : Tr) (k x : Int) (s : ByteArray) (an : Option Addr) (ln cn : Nat) (ai : Option Addr) (li ci : Nat) (w : World) (hV : Hid (VRep w t (five k x s (.slice an ln cn) (.slice ai li ci)))) (hS : Hid (SmallT t)) (hR : Hid (RangeT t)) (hT : lenT t ≤ 1000000000) :
    Calls Tryz.prog 7 #[.agg #[.int .i64 k, .int .i64 x, .string s, .slice an ln cn, .slice ai li ci]] w fun e w' => e = .returned (.tuple #[.string (printS t), .int .i64 (printE t)]) ∧ Below w.heap.size w w' := by
  have hB : ∀ o, Below w.heap.size w (w.alloc o) := fun o => (Below.refl _ _).alloc (Nat.le_refl _) _
  have hcall := fun o => hid_e (ref_check t k x s an ln cn ai li ci (w.alloc o) (VRep.keep (hB o) _ _ hV.out) hS.out)
  obtain ⟨c, hc⟩ : ∃ c, Hid (checkT 0 t = c) := ⟨_, hid_e rfl⟩
  obtain ⟨pe, hpe⟩ : ∃ c, Hid (printE t = c) := ⟨_, hid_e rfl⟩
  obtain ⟨ps, hps⟩ : ∃ c, Hid (printS t = c) := ⟨_, hid_e rfl⟩
  have HPE : Hid (pe = if c = 0 then (if lenT t ≤ 65536 then 0 else 1) else c) := by rw [Hid, ← hpe.out, printE, hc.out]
  have HPS : Hid (ps = if pe = 0 then ⟨(textT t).toArray⟩ else ⟨#[]⟩) := by rw [Hid, ← hps.out, printS, hpe.out]
  rw [hc.out] at hcall
  rw [hpe.out, hps.out]
  go_enter Tryz.func7, Tryz.ntmps7
  go_wp2_with fail
  go_fit (hcall _).out
  rintro e w1 ⟨rfl, hb1⟩
  clear hcall
  have hbw1 := below_box hb1
  by_cases h0 : c = 0
  · subst h0
    have hwr := hid_e (written_any t 0 _ w1 hc.out (VRep.keep hbw1 _ _ hV.out) hS.out hR.out hT)
    have htl := hid_e (textT_len t 0 hc.out)
    obtain ⟨tt, htt⟩ : ∃ l, Hid (textT t = l) := ⟨_, hid_e rfl⟩
    rw [htt.out] at hwr htl HPS
    have HPE' : Hid (pe = if tt.length ≤ 65536 then 0 else 1) := by have h1 := HPE.out; rw [htl.out]; first | exact h1 | (rw [if_pos rfl] at h1; exact h1)
    have u0 : w1.cell? ⟨w.heap.size, 0, none⟩ = some (.int .i64 k) := box_cells hb1 0
    have u1 : w1.cell? ⟨w.heap.size, 1, none⟩ = some (.int .i64 x) := box_cells hb1 1
    have u2 : w1.cell? ⟨w.heap.size, 2, none⟩ = some (.string s) := box_cells hb1 2
    have u3 : w1.cell? ⟨w.heap.size, 3, none⟩ = some (.slice an ln cn) := box_cells hb1 3
    have u4 : w1.cell? ⟨w.heap.size, 4, none⟩ = some (.slice ai li ci) := box_cells hb1 4
    clear hb1 HPE
    go_wp2_with fail
    clear u0 u1 u2 u3 u4
    go_fit hwr.out
    rintro e w2 ⟨⟨v, rfl, hrd⟩, hb2⟩
    have hbw2 := hbw1.trans (hb2.mono hbw1.size)
    obtain ⟨hcv, a, cc, rfl⟩ := conv_reads hrd
    clear hwr hb2 hrd
    by_cases hl : tt.length ≤ 65536
    · have e1 : Hid (pe = 0) := by have h1 := HPE'.out; rw [if_pos hl] at h1; exact h1
      have hpsv : Hid (ps = ⟨tt.toArray⟩) := by have h1 := HPS.out; rw [if_pos e1.out] at h1; exact h1
      have g0 : ¬ ((tt.length : Int) > 65536) := by omega
      go_wp2_with fail
      try (rw [hcv]; go_wp2_with fail)
      go_ret2
      exact ⟨by rw [hpsv.out, e1.out]; rfl, hbw2⟩
    · have e1 : Hid (pe = 1) := by have h1 := HPE'.out; rw [if_neg hl] at h1; exact h1
      have hpsv : Hid (ps = ⟨#[]⟩) := by have h1 := HPS.out; rw [if_neg (by rw [e1.out]; decide)] at h1; exact h1
      have g0 : (tt.length : Int) > 65536 := by omega
      clear hcv
      go_wp2_with fail
      go_ret2
      exact ⟨by rw [hpsv.out, e1.out]; rfl, hbw2⟩
  · have e1 : Hid (pe = c) := by have h1 := HPE.out; rw [if_neg h0] at h1; exact h1
    have hpsv : Hid (ps = ⟨#[]⟩) := by have h1 := HPS.out; rw [if_neg (by rw [e1.out]; exact h0)] at h1; exact h1
    have h0' : (c == 0) = false := by simpa using h0
    go_wp2_with fail
    go_ret2
    exact ⟨by rw [hpsv.out, e1.out]; rfl, hbw1⟩

/-- What Size tells. -/
def sizeT (t : Tr) : Int := if checkT 0 t = 0 then (lenT t : Int) else 0
set_option maxHeartbeats 2000000 in
theorem ref_size (t : Tr) (k x : Int) (s : ByteArray) (an : Option Addr) (ln cn : Nat) (ai : Option Addr) (li ci : Nat) (w : World) (hV : Hid (VRep w t (five k x s (.slice an ln cn) (.slice ai li ci)))) (hS : Hid (SmallT t)) (hR : Hid (RangeT t)) (hT : lenT t ≤ 1000000000) :
    Calls Tryz.prog 12 #[.agg #[.int .i64 k, .int .i64 x, .string s, .slice an ln cn, .slice ai li ci]] w fun e w' => e = .returned (.int .i64 (sizeT t)) ∧ Below w.heap.size w w' := by
  have hB : ∀ o, Below w.heap.size w (w.alloc o) := fun o => (Below.refl _ _).alloc (Nat.le_refl _) _
  have hcall := fun o => hid_e (ref_check t k x s an ln cn ai li ci (w.alloc o) (VRep.keep (hB o) _ _ hV.out) hS.out)
  obtain ⟨c, hc⟩ : ∃ c, Hid (checkT 0 t = c) := ⟨_, hid_e rfl⟩
  obtain ⟨r, hr⟩ : ∃ c, Hid (sizeT t = c) := ⟨_, hid_e rfl⟩
  rw [hc.out] at hcall
  rw [hr.out]
  go_enter Tryz.func12, Tryz.ntmps12
  go_wp2_with fail
  go_fit (hcall _).out
  rintro e w1 ⟨rfl, hb1⟩
  clear hcall
  have hbw1 := below_box hb1
  by_cases h0 : c = 0
  · subst h0
    have hwr := hid_e (written_any t 0 _ w1 hc.out (VRep.keep hbw1 _ _ hV.out) hS.out hR.out hT)
    have hrt : Hid (r = ((textT t).length : Int)) := by rw [Hid, ← hr.out, sizeT, if_pos hc.out, textT_len t 0 hc.out]
    obtain ⟨tt, htt⟩ : ∃ l, Hid (textT t = l) := ⟨_, hid_e rfl⟩
    rw [htt.out] at hwr hrt
    have u0 : w1.cell? ⟨w.heap.size, 0, none⟩ = some (.int .i64 k) := box_cells hb1 0
    have u1 : w1.cell? ⟨w.heap.size, 1, none⟩ = some (.int .i64 x) := box_cells hb1 1
    have u2 : w1.cell? ⟨w.heap.size, 2, none⟩ = some (.string s) := box_cells hb1 2
    have u3 : w1.cell? ⟨w.heap.size, 3, none⟩ = some (.slice an ln cn) := box_cells hb1 3
    have u4 : w1.cell? ⟨w.heap.size, 4, none⟩ = some (.slice ai li ci) := box_cells hb1 4
    clear hb1
    go_wp2_with fail
    clear u0 u1 u2 u3 u4
    go_fit hwr.out
    rintro e w2 ⟨⟨v, rfl, hrd⟩, hb2⟩
    have hbw2 := hbw1.trans (hb2.mono hbw1.size)
    obtain ⟨-, a, cc, rfl⟩ := conv_reads hrd
    clear hwr hb2 hrd
    go_wp2_with fail
    go_ret
    exact ⟨ret_int hrt.out.symm, hbw2⟩
  · have h0' : (c == 0) = false := by simpa using h0
    have hrt : Hid (r = 0) := by rw [Hid, ← hr.out, sizeT, if_neg (by rw [hc.out]; exact h0)]
    go_wp2_with fail
    go_ret
    exact ⟨ret_int hrt.out.symm, hbw1⟩
set_option maxHeartbeats 2000000 in
theorem size_code (t : Tr) (k x : Int) (s : ByteArray) (an : Option Addr) (ln cn : Nat) (ai : Option Addr) (li ci : Nat) (w : World) (hV : Hid (VRep w t (five k x s (.slice an ln cn) (.slice ai li ci)))) (hS : Hid (SmallT t)) (hR : Hid (RangeT t)) (hT : lenT t ≤ 9000000000000000000) (hE : Hid (EnvP w)) :
    Calls Tryz.prog 11 #[.agg #[.int .i64 k, .int .i64 x, .string s, .slice an ln cn, .slice ai li ci]] w fun e w' => e = .returned (.int .i64 (sizeT t)) ∧ Below w.heap.size w w' := by
  have h8 := hE.out.big
  have hB : ∀ o, Below w.heap.size w (w.alloc o) := fun o => (Below.refl _ _).alloc (Nat.le_refl _) _
  have hcall := fun o => hid_e (check_code t k x s an ln cn ai li ci (w.alloc o) (VRep.keep (hB o) _ _ hV.out) hS.out (utf_below hE.out.utf (hB o) h8) (by rw [World.size_alloc]; omega))
  obtain ⟨c, hc⟩ : ∃ c, Hid (checkT 0 t = c) := ⟨_, hid_e rfl⟩
  obtain ⟨r, hr⟩ : ∃ c, Hid (sizeT t = c) := ⟨_, hid_e rfl⟩
  rw [hc.out] at hcall
  rw [hr.out]
  go_enter Tryz.func11, Tryz.ntmps11
  go_wp2_with fail
  go_fit (hcall _).out
  rintro e w1 ⟨rfl, hb1⟩
  clear hcall
  have hbw1 := below_box hb1
  by_cases h0 : c = 0
  · subst h0
    have hwr := hid_e (len_any t 0 _ w1 hc.out (VRep.keep hbw1 _ _ hV.out) hS.out hR.out hT (hE.out.below hbw1 h8))
    have hrt : Hid (r = (lenT t : Int)) := by rw [Hid, ← hr.out, sizeT, if_pos hc.out]
    rw [← hrt.out] at hwr
    have u0 : w1.cell? ⟨w.heap.size, 0, none⟩ = some (.int .i64 k) := box_cells hb1 0
    have u1 : w1.cell? ⟨w.heap.size, 1, none⟩ = some (.int .i64 x) := box_cells hb1 1
    have u2 : w1.cell? ⟨w.heap.size, 2, none⟩ = some (.string s) := box_cells hb1 2
    have u3 : w1.cell? ⟨w.heap.size, 3, none⟩ = some (.slice an ln cn) := box_cells hb1 3
    have u4 : w1.cell? ⟨w.heap.size, 4, none⟩ = some (.slice ai li ci) := box_cells hb1 4
    clear hb1
    go_wp2_with fail
    clear u0 u1 u2 u3 u4
    go_fit hwr.out
    rintro e w2 ⟨rfl, hb2⟩
    have hbw2 := hbw1.trans (hb2.mono hbw1.size)
    go_wp2_with fail
    go_ret
    exact ⟨rfl, hbw2⟩
  · have h0' : (c == 0) = false := by simpa using h0
    have hrt : Hid (r = 0) := by rw [Hid, ← hr.out, sizeT, if_neg (by rw [hc.out]; exact h0)]
    go_wp2_with fail
    go_ret
    exact ⟨ret_int hrt.out.symm, hbw1⟩
end Go.Proofs.YtjhefkojfojjdaaGreatDoor.Tree
