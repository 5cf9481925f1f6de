import Derived.Test.YtnccaidlcaeeaaaGreatDoorB4
/-! The length of every value that Check finds good: the walk down. -/
namespace Go.Proofs.YtnccaidlcaeeaaaGreatDoor.Tree
open Go Go.RowKit Go.Maps

theorem items_zero {d : Nat} : (its : List Tr) → itemsT d its = 0 → ∀ u ∈ its, checkT d u = 0
  | [], _, u, hu => by cases hu
  | t :: ts, h, u, hu => by
    rw [itemsT] at h
    split at h
    · rename_i h1
      rcases List.mem_cons.1 hu with rfl | hu
      · exact h1
      · exact items_zero ts h u hu
    · rename_i h1; exact absurd h h1
theorem members_zero {d : Nat} : (ns : List ByteArray) → (its : List Tr) → (had : List ByteArray) → membersT d had ns its = 0 → ns.length = its.length →
    (∀ n ∈ ns, Lib.validD n.data.toList = true) ∧ (∀ u ∈ its, checkT d u = 0) ∧ (∀ i, i < ns.length → hasName (had ++ ns.take i) (nth ns i) = false)
  | [], [], _, _, _ => ⟨fun _ h => by simp at h, fun _ h => by simp at h, fun i h => by simp at h⟩
  | [], _ :: _, _, _, h => by simp at h
  | _ :: _, [], _, _, h => by simp at h
  | n :: ns, t :: ts, had, h, hl => by
    rw [membersT] at h
    split at h
    · simp at h
    split at h
    · simp at h
    split at h
    · rename_i h1 h2 h3
      obtain ⟨e1, e2, e3⟩ := members_zero ns ts (had ++ [n]) h (by simpa using hl)
      refine ⟨fun m hm => ?_, fun u hu => ?_, fun i hi => ?_⟩
      · rcases List.mem_cons.1 hm with rfl | hm
        · simpa using h1
        · exact e1 m hm
      · rcases List.mem_cons.1 hu with rfl | hu
        · exact h3
        · exact e2 u hu
      · cases i with
        | zero => simpa [nth] using h2
        | succ i =>
          have := e3 i (by simpa using hi)
          simpa [nth] using this
    · rename_i h3; exact absurd h h3
theorem check_zero {d : Nat} {k x : Int} {s : ByteArray} {ns : List ByteArray} {its : List Tr} (h : checkT d (.node k x s ns its) = 0) :
    aloneT d k x s ns.length its.length = 0 ∧ (k = 6 → membersT (d + 1) [] ns its = 0) ∧ (k ≠ 6 → itemsT (d + 1) its = 0) := by
  rw [checkT] at h
  split at h
  · rename_i h0
    refine ⟨h0, fun e => ?_, fun e => ?_⟩
    · rwa [if_pos e] at h
    · rwa [if_neg e] at h
  · rename_i h0; exact absurd h h0
/-- What Check's OK says of the parts. -/
theorem check_items {d : Nat} {k x : Int} {s : ByteArray} {ns : List ByteArray} {its : List Tr} (h : checkT d (.node k x s ns its) = 0) : (∀ u ∈ its, checkT (d + 1) u = 0) ∧ (∀ n ∈ ns, Lib.validD n.data.toList = true) := by
  obtain ⟨h1, h2, h3⟩ := check_zero h
  obtain ⟨a1, a2, a3, a4, a5, a6⟩ := aloneT_ok h1
  by_cases e : k = 6
  · obtain ⟨b1, b2, -⟩ := members_zero ns its [] (h2 e) (a6 e)
    exact ⟨b2, b1⟩
  · refine ⟨items_zero its (h3 e), fun n hn => ?_⟩
    unfold keepsB at a4
    simp only [Bool.and_eq_true, Bool.or_eq_true, beq_iff_eq] at a4
    rcases a4.1.2 with h4 | h4
    · have : ns = [] := List.eq_nil_of_length_eq_zero (by omega)
      subst this; cases hn
    · exact absurd h4 e

mutual
/-- The numbers are of 64 bits. -/
def RangeT : Tr → Prop
  | .node _ x _ _ its => (-9223372036854775808 ≤ x ∧ x ≤ 9223372036854775807) ∧ RangeL its
def RangeL : List Tr → Prop
  | [] => True
  | t :: ts => RangeT t ∧ RangeL ts
end
theorem RangeL.at : {its : List Tr} → {i : Nat} → {u : Tr} → RangeL its → its[i]? = some u → RangeT u
  | [], i, u, _, h => by simp at h
  | t :: ts, 0, u, hr, h => by
    unfold RangeL at hr
    obtain rfl : t = u := by simpa using h
    exact hr.1
  | t :: ts, i + 1, u, hr, h => by
    unfold RangeL at hr
    exact RangeL.at hr.2 (by simpa using h)

set_option maxHeartbeats 1000000 in
theorem len_flat' (k : Int) (T : ByteArray) (hk : k = 0 ∨ k = 1 ∨ k = 2) (hT : ∀ w, Calls Tryz.prog 47 #[.int .i64 k] w fun e w' => e = .returned (.string T) ∧ w' = w) (x : Int) (s : ByteArray) (a1 : Option Addr) (l1 c1 : Nat) (a2 : Option Addr) (l2 c2 : Nat) (w : World) :
    Calls Tryz.prog 30 #[.agg #[.int .i64 k, .int .i64 x, .string s, .slice a1 l1 c1, .slice a2 l2 c2]] w fun e w' => e = .returned (.int .i64 (T.size : Int)) ∧ Below w.heap.size w w' := by
  have hB : ∀ o, Below w.heap.size w (w.alloc o) := fun o => (Below.refl _ _).alloc (Nat.le_refl _) _
  rcases hk with rfl | rfl | rfl
  all_goals
    go_enter Tryz.func30, Tryz.ntmps30
    go_wp2_with fail
    refine (hT _).mono ?_
    rintro e w1 ⟨rfl, rfl⟩
    go_wp2_with fail
    go_ret
    exact ⟨rfl, hB _⟩
set_option maxHeartbeats 1000000 in
theorem len_int' (x : Int) (h0 : -9223372036854775808 ≤ x) (h1 : x ≤ 9223372036854775807) (s : ByteArray) (a1 : Option Addr) (l1 c1 : Nat) (a2 : Option Addr) (l2 c2 : Nat) (w : World) (hE : EnvP w) :
    Calls Tryz.prog 30 #[.agg #[.int .i64 3, .int .i64 x, .string s, .slice a1 l1 c1, .slice a2 l2 c2]] w fun e w' => e = .returned (.int .i64 ((Lib.itoa x).length : Int)) ∧ Below w.heap.size w w' := by
  have hB : ∀ o, Below w.heap.size w (w.alloc o) := fun o => (Below.refl _ _).alloc (Nat.le_refl _) _
  have hT : ∀ o, Lib.TabIs Tryz.prog (w.alloc o) "internal/strconv.uint64pow10" .u64 Lib.pow10Tab := fun o => tab_below hE.tab (hB o) hE.big
  go_enter Tryz.func30, Tryz.ntmps30
  go_wp2_with fail
  refine (fmt_any x h0 h1 _ (hT _)).mono ?_
  rintro e w1 ⟨rfl, hb1⟩
  have hbw : Below w.heap.size w w1 := (hB _).trans (hb1.mono (by simp))
  clear hb1
  go_wp2_with fail
  go_ret
  exact ⟨rfl, hbw⟩
set_option maxHeartbeats 1000000 in
theorem len_text' (x : Int) (s : ByteArray) (hs : okS s) (a1 : Option Addr) (l1 c1 : Nat) (a2 : Option Addr) (l2 c2 : Nat) (w : World) :
    Calls Tryz.prog 30 #[.agg #[.int .i64 4, .int .i64 x, .string s, .slice a1 l1 c1, .slice a2 l2 c2]] w fun e w' => e = .returned (.int .i64 ((qT s).length : Int)) ∧ Below w.heap.size w w' := by
  have hB : ∀ o, Below w.heap.size w (w.alloc o) := fun o => (Below.refl _ _).alloc (Nat.le_refl _) _
  go_enter Tryz.func30, Tryz.ntmps30
  go_wp2_with fail
  refine (qlen_big s hs _).mono ?_
  rintro e w1 ⟨rfl, hb1⟩
  have hbw : Below w.heap.size w w1 := (hB _).trans (hb1.mono (by simp))
  clear hb1
  go_wp2_with fail
  go_ret
  exact ⟨rfl, hbw⟩

theorem seven {k : Int} (h0 : 0 ≤ k) (h6 : k ≤ 6) : k = 0 ∨ k = 1 ∨ k = 2 ∨ k = 3 ∨ k = 4 ∨ k = 5 ∨ k = 6 := by omega
theorem lenT_nest {k x : Int} {s : ByteArray} {ns : List ByteArray} {its : List Tr} (hk : k = 5 ∨ k = 6) : lenT (.node k x s ns its) = 2 + (its.length - 1) + nameSum ns + lenTL its := by
  rw [lenT, if_neg (by omega), if_neg (by omega), if_pos hk]
theorem len_any (t : Tr) (d : Nat) (cs : List Value) (w : World) (h : checkT d t = 0) (hV : VRep w t cs) (hS : SmallT t) (hR : RangeT t) (hl : lenT t ≤ 9000000000000000000) (hE : EnvP w) :
    Calls Tryz.prog 30 #[.agg cs.toArray] w fun e w' => e = .returned (.int .i64 (lenT t : Int)) ∧ Below w.heap.size w w' := by
  match t, h, hV, hS, hR, hl with
  | .node k x s ns its, h, hV, hS, hR, hl =>
    unfold VRep at hV
    unfold SmallT at hS
    unfold RangeT at hR
    obtain ⟨nm, a, c, rfl, hn, hc, hI⟩ := hV
    obtain ⟨an, cn, rfl, -, -⟩ := id hn
    obtain ⟨hs1, hs2, hs3, hs4, hs5⟩ := hS
    obtain ⟨hci, hcn⟩ := check_items h
    obtain ⟨ha1, ha2, ha3, ha4, ha5, ha6⟩ := aloneT_ok (check_zero h).1
    have nest : (k = 5 ∨ k = 6) → Calls Tryz.prog 30 #[.agg #[.int .i64 k, .int .i64 x, .string s, .slice an ns.length cn, .slice a its.length c]] w fun e w' => e = .returned (.int .i64 (lenT (.node k x s ns its) : Int)) ∧ Below w.heap.size w w' := fun hk => by
      rw [lenT_nest hk] at hl ⊢
      refine len_nest k hk x s an ns.length cn a its.length c _ w (hid_e (fun w' hb => ?_))
      refine nest_code k x s an cn ns a c its w' (by omega) (by omega) (hid_e (fun n hn' => ⟨hs3 n hn', hcn n hn'⟩)) hl (hid_e (hn.keep hb)) (hid_e (itemsAt_keep hI hb)) (hid_e (hE.below hb hE.big)) (hid_e (fun i u hu ds w'' h1 h2 => ?_))
      have hlt : SizeOf.sizeOf u < SizeOf.sizeOf its := tr_lt hu
      exact len_any u (d + 1) ds w'' (hci u (List.mem_of_getElem? hu)) h1 (SmallL.at hs5 hu) (RangeL.at hR.2 hu) (by have := lenTL_at hu; omega) h2
    rcases seven ha2 ha3 with rfl | rfl | rfl | rfl | rfl | rfl | rfl
    · rw [show lenT (.node 0 x s ns its) = 4 by rw [lenT]; simp]
      exact len_flat' 0 ⟨#[110, 117, 108, 108]⟩ (by decide) const_null x s _ _ _ _ _ _ w
    · rw [show lenT (.node 1 x s ns its) = 5 by rw [lenT]; simp]
      exact len_flat' 1 ⟨#[102, 97, 108, 115, 101]⟩ (by decide) const_false x s _ _ _ _ _ _ w
    · rw [show lenT (.node 2 x s ns its) = 4 by rw [lenT]; simp]
      exact len_flat' 2 ⟨#[116, 114, 117, 101]⟩ (by decide) const_true x s _ _ _ _ _ _ w
    · rw [show lenT (.node 3 x s ns its) = (Lib.itoa x).length by rw [lenT]; simp]
      exact len_int' x hR.1.1 hR.1.2 s _ _ _ _ _ _ w hE
    · rw [show lenT (.node 4 x s ns its) = (qT s).length by rw [lenT]; simp]
      exact len_text' x s ⟨hs1, ha5⟩ _ _ _ _ _ _ w
    · exact nest (.inl rfl)
    · exact nest (.inr rfl)
termination_by SizeOf.sizeOf t
decreasing_by simp only [Tr.node.sizeOf_spec]; omega
end Go.Proofs.YtnccaidlcaeeaaaGreatDoor.Tree
