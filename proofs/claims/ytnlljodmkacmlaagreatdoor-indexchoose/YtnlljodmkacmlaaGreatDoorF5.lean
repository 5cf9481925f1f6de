import Derived.Test.YtnlljodmkacmlaaGreatDoorF4
/-! The bytes of every value: order.Bytes. -/
namespace Go.Proofs.YtnlljodmkacmlaaGreatDoor.Chk
open Go Go.RowKit

theorem items_zero {d : Nat} : (its : List Tr) → itemsT d its = 0 → ∀ u ∈ its, checkT d u = 0
  | [], _, u, hu => by cases hu
  | t :: ts, h, u, hu => by
    rw [itemsT] at h
    split at h
    · rename_i h1
      rcases List.mem_cons.1 hu with rfl | hu
      · exact h1
      · exact items_zero ts h u hu
    · rename_i h1; exact absurd h h1
theorem members_zero {d : Nat} : (ns : List ByteArray) → (its : List Tr) → (had : List ByteArray) → membersT d had ns its = 0 → ns.length = its.length →
    (∀ n ∈ ns, Lib.validD n.data.toList = true) ∧ (∀ u ∈ its, checkT d u = 0) ∧ (∀ i, i < ns.length → hasName (had ++ ns.take i) (nth ns i) = false)
  | [], [], _, _, _ => ⟨fun _ h => by simp at h, fun _ h => by simp at h, fun i h => by simp at h⟩
  | [], _ :: _, _, _, h => by simp at h
  | _ :: _, [], _, _, h => by simp at h
  | n :: ns, t :: ts, had, h, hl => by
    rw [membersT] at h
    split at h
    · simp at h
    split at h
    · simp at h
    split at h
    · rename_i h1 h2 h3
      obtain ⟨e1, e2, e3⟩ := members_zero ns ts (had ++ [n]) h (by simpa using hl)
      refine ⟨fun m hm => ?_, fun u hu => ?_, fun i hi => ?_⟩
      · rcases List.mem_cons.1 hm with rfl | hm
        · simpa using h1
        · exact e1 m hm
      · rcases List.mem_cons.1 hu with rfl | hu
        · exact h3
        · exact e2 u hu
      · cases i with
        | zero => simpa [nth] using h2
        | succ i =>
          have := e3 i (by simpa using hi)
          simpa [nth] using this
    · rename_i h3; exact absurd h h3
theorem check_zero {d : Nat} {k x : Int} {s : ByteArray} {ns : List ByteArray} {its : List Tr} (h : checkT d (.node k x s ns its) = 0) :
    aloneT d k x s ns.length its.length = 0 ∧ (k = 6 → membersT (d + 1) [] ns its = 0) ∧ (k ≠ 6 → itemsT (d + 1) its = 0) := by
  rw [checkT] at h
  split at h
  · rename_i h0
    refine ⟨h0, fun e => ?_, fun e => ?_⟩
    · rwa [if_pos e] at h
    · rwa [if_neg e] at h
  · rename_i h0; exact absurd h h0
/-- What Check's OK says of the parts. -/
theorem check_items {d : Nat} {k x : Int} {s : ByteArray} {ns : List ByteArray} {its : List Tr} (h : checkT d (.node k x s ns its) = 0) : (∀ u ∈ its, checkT (d + 1) u = 0) ∧ (∀ n ∈ ns, Lib.validD n.data.toList = true) := by
  obtain ⟨h1, h2, h3⟩ := check_zero h
  obtain ⟨a1, a2, a3, a4, a5, a6⟩ := aloneT_ok h1
  by_cases e : k = 6
  · obtain ⟨b1, b2, -⟩ := members_zero ns its [] (h2 e) (a6 e)
    exact ⟨b2, b1⟩
  · refine ⟨items_zero its (h3 e), fun n hn => ?_⟩
    unfold keepsB at a4
    simp only [Bool.and_eq_true, Bool.or_eq_true, beq_iff_eq] at a4
    rcases a4.1.2 with h4 | h4
    · have : ns = [] := List.eq_nil_of_length_eq_zero (by omega)
      subst this; cases hn
    · exact absurd h4 e

mutual
/-- The numbers are of 64 bits. -/
def RangeT : Tr → Prop
  | .node _ x _ _ its => (-9223372036854775808 ≤ x ∧ x ≤ 9223372036854775807) ∧ RangeL its
def RangeL : List Tr → Prop
  | [] => True
  | t :: ts => RangeT t ∧ RangeL ts
end
theorem RangeL.at : {its : List Tr} → {i : Nat} → {u : Tr} → RangeL its → its[i]? = some u → RangeT u
  | [], i, u, _, h => by simp at h
  | t :: ts, 0, u, hr, h => by
    unfold RangeL at hr
    obtain rfl : t = u := by simpa using h
    exact hr.1
  | t :: ts, i + 1, u, hr, h => by
    unfold RangeL at hr
    exact RangeL.at hr.2 (by simpa using h)


theorem seven {k : Int} (h0 : 0 ≤ k) (h6 : k ≤ 6) : k = 0 ∨ k = 1 ∨ k = 2 ∨ k = 3 ∨ k = 4 ∨ k = 5 ∨ k = 6 := by omega
theorem goodL_of : (its : List Tr) → (∀ u ∈ its, GoodK u) → GoodKL its
  | [], _ => by unfold GoodKL; trivial
  | t :: ts, h => by unfold GoodKL; exact ⟨h t (.head _), goodL_of ts (fun u hu => h u (.tail _ hu))⟩
theorem goodL_at : {its : List Tr} → {i : Nat} → {u : Tr} → GoodKL its → its[i]? = some u → GoodK u
  | [], i, u, _, h => by simp at h
  | t :: ts, 0, u, hr, h => by
    unfold GoodKL at hr
    obtain rfl : t = u := by simpa using h
    exact hr.1
  | t :: ts, i + 1, u, hr, h => by
    unfold GoodKL at hr
    exact goodL_at hr.2 (by simpa using h)
theorem good_of (t : Tr) (d : Nat) (h : checkT d t = 0) (hR : RangeT t) : GoodK t := by
  match t, h, hR with
  | .node k x s ns its, h, hR =>
    unfold RangeT at hR
    obtain ⟨hci, -⟩ := check_items h
    obtain ⟨ha1, ha2, ha3, ha4, ha5, ha6⟩ := aloneT_ok (check_zero h).1
    unfold GoodK
    refine ⟨⟨ha2, ha3⟩, hR.1, ha6, goodL_of its (fun u hu => ?_)⟩
    obtain ⟨i, hi⟩ := List.getElem?_of_mem hu
    have hlt : SizeOf.sizeOf u < SizeOf.sizeOf its := tr_lt hi
    exact good_of u (d + 1) (hci u hu) (RangeL.at hR.2 hi)
termination_by SizeOf.sizeOf t
decreasing_by simp only [Tr.node.sizeOf_spec]; omega
theorem keyT0 {x : Int} {s : ByteArray} {ns : List ByteArray} {its : List Tr} : keyT (.node 0 x s ns its) = [5] := by rw [keyT]; rfl
theorem keyT1 {x : Int} {s : ByteArray} {ns : List ByteArray} {its : List Tr} : keyT (.node 1 x s ns its) = [80] := by rw [keyT]; rfl
theorem keyT2 {x : Int} {s : ByteArray} {ns : List ByteArray} {its : List Tr} : keyT (.node 2 x s ns its) = [81] := by rw [keyT]; rfl
theorem keyT3 {x : Int} {s : ByteArray} {ns : List ByteArray} {its : List Tr} : keyT (.node 3 x s ns its) = 16 :: keyN x := by rw [keyT]; rfl
theorem keyT4 {x : Int} {s : ByteArray} {ns : List ByteArray} {its : List Tr} : keyT (.node 4 x s ns its) = 32 :: keyS s.data.toList := by rw [keyT]; rfl
theorem keyT5 {x : Int} {s : ByteArray} {ns : List ByteArray} {its : List Tr} : keyT (.node 5 x s ns its) = 64 :: kyL its := by rw [keyT]; rfl
theorem keyT6 {x : Int} {s : ByteArray} {ns : List ByteArray} {its : List Tr} : keyT (.node 6 x s ns its) = 48 :: kyM ns its := by rw [keyT]; rfl
set_option maxHeartbeats 1000000 in
theorem laid_any (t : Tr) (hG : GoodK t) (w0 : World) (lo : Nat) (hl0 : w0.heap.size ≤ lo) (cs : List Value) (W : World) (v : Value) (l : List UInt8) (hV : VRep w0 t cs) (hB : Below w0.heap.size w0 W) (hlo : lo ≤ W.heap.size) (hown : W.ownsRow lo 5 1 v l.length (Lib.byteCells l)) (hb : l.length + 2 * (keyT t).length ≤ 100000000000) :
    Calls Tryz.prog 134 #[v, .agg cs.toArray] W (KeyPost lo W v (l ++ keyT t)) := by
  match t, hG, hV, hb with
  | .node k x s ns its, hG, hV, hb =>
    unfold VRep at hV
    obtain ⟨nm, a, c, rfl, hn, hc, hI⟩ := hV
    obtain ⟨an, cn, rfl, -, -⟩ := id hn
    unfold GoodK at hG
    obtain ⟨⟨h0, h6⟩, hx, hnl, hg⟩ := hG
    have hoks : LaidOks w0 lo its := fun i u hu cs' W' v' l' e1 e2 e3 e4 e5 => by
      have hlt : SizeOf.sizeOf u < SizeOf.sizeOf its := tr_lt hu
      exact laid_any u (goodL_at hg hu) w0 lo hl0 cs' W' v' l' e1 e2 e3 e4 e5
    rcases seven h0 h6 with rfl | rfl | rfl | rfl | rfl | rfl | rfl
    · rw [keyT0] at hb ⊢
      exact laid_0 x s an ns.length cn a its.length c v l lo W hlo (hid_e hown) (by simp only [List.length_cons, List.length_nil] at hb; omega)
    · rw [keyT1] at hb ⊢
      exact laid_1 x s an ns.length cn a its.length c v l lo W hlo (hid_e hown) (by simp only [List.length_cons, List.length_nil] at hb; omega)
    · rw [keyT2] at hb ⊢
      exact laid_2 x s an ns.length cn a its.length c v l lo W hlo (hid_e hown) (by simp only [List.length_cons, List.length_nil] at hb; omega)
    · rw [keyT3] at hb ⊢
      exact laid_3 x s an ns.length cn a its.length c v l lo W hx hlo (hid_e hown) (by simp only [List.length_cons] at hb; omega)
    · rw [keyT4] at hb ⊢
      exact laid_4 x s an ns.length cn a its.length c v l lo W hlo (hid_e hown) (by simp only [List.length_cons] at hb; omega)
    · rw [keyT5] at hb ⊢
      exact laid_5 x s an ns.length cn a c its v l lo w0 W hB hl0 hlo (hid_e hown) (by omega) (by simp only [List.length_cons] at hb; omega) (hid_e hI) (hid_e hoks)
    · rw [keyT6] at hb ⊢
      have hnl' := hnl rfl
      rw [hnl'] at hn ⊢
      exact laid_6 x s an cn ns a c its v l lo w0 W hB hl0 hlo (hid_e hown) (by omega) (by simp only [List.length_cons] at hb; omega) (hid_e hnl') (hid_e hn) (hid_e hI) (hid_e hoks)
termination_by SizeOf.sizeOf t
decreasing_by simp only [Tr.node.sizeOf_spec]; omega
theorem check_code (t : Tr) (k x : Int) (s : ByteArray) (an : Option Addr) (ln cn : Nat) (ai : Option Addr) (li ci : Nat) (w : World) (hV : VRep w t (five k x s (.slice an ln cn) (.slice ai li ci))) (hS : SmallT t) (hU : Lib.Utf8Tabs 1 2 w) (h8 : 3 ≤ w.heap.size) :
    Calls Tryz.prog 26 #[.agg #[.int .i64 k, .int .i64 x, .string s, .slice an ln cn, .slice ai li ci]] w fun e w' => e = .returned (.int .i64 (checkT 0 t)) ∧ Below w.heap.size w w' := by
  have hB : ∀ o, Below w.heap.size w (w.alloc o) := fun o => (Below.refl _ _).alloc (Nat.le_refl _) _
  have hcall := fun o => hid_e (check_deep t 0 _ (w.alloc o) (by omega) (VRep.keep (hB o) _ _ hV) hS (utf_below hU (hB o) h8) (by rw [World.size_alloc]; omega))
  obtain ⟨c, hc⟩ : ∃ c, Hid (checkT 0 t = c) := ⟨_, hid_e rfl⟩
  rw [hc.out] at hcall ⊢
  go_enter Tryz.func26, Tryz.ntmps26
  go_wp2_with fail
  go_fit (hcall _).out
  rintro e w1 ⟨rfl, hb1⟩
  go_wp2_with fail
  go_ret
  exact ⟨rfl, below_box hb1⟩
/-- What Bytes answers. -/
structure BytesAt (w : World) (t : Tr) (kv : Value) (w' : World) : Prop where
  bad : checkT 0 t ≠ 0 → kv = .slice none 0 0
  good : checkT 0 t = 0 → w'.ownsRow w.heap.size 5 1 kv (keyT t).length (Lib.byteCells (keyT t))
  below : Below w.heap.size w w'
def BytesPost (w : World) (t : Tr) (e : Ending) (w' : World) : Prop := ∃ kv, e = .returned (.tuple #[kv, .int .i64 (checkT 0 t)]) ∧ BytesAt w t kv w'
set_option maxHeartbeats 2000000 in
set_option maxRecDepth 100000 in
theorem bytes_code (t : Tr) (k x : Int) (s : ByteArray) (an : Option Addr) (ln cn : Nat) (ai : Option Addr) (li ci : Nat) (w : World) (hV : Hid (VRep w t (five k x s (.slice an ln cn) (.slice ai li ci)))) (hS : Hid (SmallT t)) (hR : Hid (RangeT t)) (hT : Hid (checkT 0 t = 0 → 2 * (keyT t).length ≤ 100000000000)) (hU : Hid (Lib.Utf8Tabs 1 2 w)) (h8 : 3 ≤ w.heap.size) :
    Calls Tryz.prog 107 #[.agg #[.int .i64 k, .int .i64 x, .string s, .slice an ln cn, .slice ai li ci]] w (BytesPost w t) := by
  have hB : ∀ o, Below w.heap.size w (w.alloc o) := fun o => (Below.refl _ _).alloc (Nat.le_refl _) _
  have hcall := fun o => hid_e (check_code t k x s an ln cn ai li ci (w.alloc o) (VRep.keep (hB o) _ _ hV.out) hS.out (utf_below hU.out (hB o) h8) (by rw [World.size_alloc]; omega))
  unfold BytesPost
  obtain ⟨c, hc⟩ : ∃ c, Hid (checkT 0 t = c) := ⟨_, hid_e rfl⟩
  rw [hc.out] at hcall ⊢
  go_enter Tryz.func107, Tryz.ntmps107
  go_wp2_with fail
  go_fit (hcall _).out
  rintro e w1 ⟨rfl, hb1⟩
  clear hcall
  have hbw1 := below_box hb1
  by_cases h0 : c = 0
  · subst h0
    have hlaid := hid_e (laid_any t (good_of t 0 hc.out hR.out) w w.heap.size (Nat.le_refl _) _ w1 (.slice none 0 0) [] hV.out hbw1 hbw1.size (World.ownsRow_nil _ _ _ _) (by have := hT.out hc.out; simp only [List.length_nil]; omega))
    rw [List.nil_append] at hlaid
    have u0 : w1.cell? ⟨w.heap.size, 0, none⟩ = some (.int .i64 k) := box_cells hb1 0
    have u1 : w1.cell? ⟨w.heap.size, 1, none⟩ = some (.int .i64 x) := box_cells hb1 1
    have u2 : w1.cell? ⟨w.heap.size, 2, none⟩ = some (.string s) := box_cells hb1 2
    have u3 : w1.cell? ⟨w.heap.size, 3, none⟩ = some (.slice an ln cn) := box_cells hb1 3
    have u4 : w1.cell? ⟨w.heap.size, 4, none⟩ = some (.slice ai li ci) := box_cells hb1 4
    clear hb1
    go_wp2_with fail
    clear u0 u1 u2 u3 u4
    go_fit hlaid.out
    rintro e w2 ⟨kv, rfl, hK⟩
    have hb2 : Below w.heap.size w w2 := hbw1.trans (grown_below hK.grown hbw1.size (fun g hg => by simp [Value.ownBlock] at hg))
    have hK' := hid_e hK.own
    clear hlaid hK
    go_wp2_with fail
    go_ret2
    exact ⟨kv, rfl, ⟨fun h => absurd hc.out h, fun _ => hK'.out, hb2⟩⟩
  · have h0' : (c == 0) = false := by simpa using h0
    go_wp2_with fail
    go_ret2
    exact ⟨_, rfl, ⟨fun _ => rfl, fun h => absurd (hc.out.symm.trans h) h0, hbw1⟩⟩
end Go.Proofs.YtnlljodmkacmlaaGreatDoor.Chk
