import Derived.Test.YtjhefkojfojjdaaGreatDoorB7
import Derived.Test.YtjhefkojfojjdaaGreatDoorZ2
import Derived.Test.YtjhefkojfojjdaaGreatDoorX6
/-! Trees that Check finds good, and the values of the reader. -/
namespace Go.Proofs.YtjhefkojfojjdaaGreatDoor.Tree
open Go Go.RowKit Go.Maps

mutual
def ofJ : J → Tr
  | .null => .node 0 0 noS [] []
  | .fls => .node 1 0 noS [] []
  | .tru => .node 2 0 noS [] []
  | .int x => .node 3 x noS [] []
  | .text s => .node 4 0 s [] []
  | .list l => .node 5 0 noS [] (ofL l)
  | .obj ns l => .node 6 0 noS ns (ofL l)
def ofL : List J → List Tr
  | [] => []
  | j :: js => ofJ j :: ofL js
end
theorem ofL_len : (l : List J) → (ofL l).length = l.length
  | [] => by rw [ofL]; rfl
  | j :: js => by rw [ofL, List.length_cons, ofL_len js, List.length_cons]
theorem nameSum_upTo : (ns : List ByteArray) → nameSum ns = upTo (nameLen ns) ns.length
  | [] => by rw [nameSum]; rfl
  | n :: ns => by
    rw [nameSum, List.length_cons, upTo_shift, nameSum_upTo ns]
    rfl
/-- What a tree is that Check finds good. -/
def GoodAs (d : Nat) (t : Tr) (j : J) : Prop := t = ofJ j ∧ okJ d j ∧ smJ j ∧ wfJ j ∧ textT t = textJ j ∧ lenT t = lenJ j
theorem good_js {d : Nat} : (its : List Tr) → (∀ u ∈ its, ∃ j, GoodAs d u j) → ∃ js, its = ofL js ∧ okL d js ∧ smL js ∧ wfL js ∧ textsT its = textsL js ∧ lenTL its = lenL js
  | [], _ => ⟨[], by rw [ofL], by unfold okL; trivial, by unfold smL; trivial, by unfold wfL; trivial, by rw [textsT, textsL], by rw [lenTL, lenL]⟩
  | t :: ts, h => by
    obtain ⟨j, e1, e2, e3, e4, e5, e6⟩ := h t (.head _)
    obtain ⟨js, f1, f2, f3, f4, f5, f6⟩ := good_js ts (fun u hu => h u (.tail _ hu))
    refine ⟨j :: js, by rw [ofL, ← e1, ← f1], ?_, ?_, ?_, by rw [textsT, textsL, e5, f5], by rw [lenTL, lenL, e6, f6]⟩
    · unfold okL; exact ⟨e2, f2⟩
    · unfold smL; exact ⟨e3, f3⟩
    · unfold wfL; exact ⟨e4, f4⟩
theorem good_j (t : Tr) (d : Nat) (h : checkT d t = 0) (hl : lenT t ≤ 65536) (hR : RangeT t) : ∃ j, GoodAs d t j := by
  match t, h, hl, hR with
  | .node k x s ns its, h, hl, hR =>
    unfold RangeT at hR
    obtain ⟨hci, hcn⟩ := check_items h
    obtain ⟨h0, h06, -⟩ := check_zero h
    obtain ⟨ha1, ha2, ha3, ha4, ha5, ha6⟩ := aloneT_ok h0
    unfold keepsB at ha4
    simp only [Bool.and_eq_true, Bool.or_eq_true, beq_iff_eq, decide_eq_true_eq] at ha4
    obtain ⟨⟨⟨hx, hs⟩, hns⟩, hits⟩ := ha4
    have ex : k ≠ 3 → x = 0 := fun e => hx.resolve_right e
    have es : k ≠ 4 → s = noS := fun e => hs.resolve_right e
    have en : k ≠ 6 → ns = [] := fun e => List.eq_nil_of_length_eq_zero (by have := hns.resolve_right e; omega)
    have ei : k ≠ 5 → k ≠ 6 → its = [] := fun e e' => List.eq_nil_of_length_eq_zero (by have := hits.resolve_right (by omega); omega)
    have dN : (k = 5 ∨ k = 6) → d ≤ 63 := fun e => by
      unfold deepB at ha1
      rw [if_pos (by rcases e with rfl | rfl <;> rfl)] at ha1
      omega
    have dF : d ≤ 64 := by
      unfold deepB at ha1
      split at ha1 <;> omega
    have sub : (k = 5 ∨ k = 6) → ∃ js, its = ofL js ∧ okL (d + 1) js ∧ smL js ∧ wfL js ∧ textsT its = textsL js ∧ lenTL its = lenL js := fun e => by
      rw [lenT_nest e] at hl
      refine good_js its (fun u hu => ?_)
      obtain ⟨i, hi⟩ := List.getElem?_of_mem hu
      have hlt : SizeOf.sizeOf u < SizeOf.sizeOf its := tr_lt hi
      exact good_j u (d + 1) (hci u hu) (by have := lenTL_at hi; omega) (RangeL.at hR.2 hi)
    rcases seven ha2 ha3 with rfl | rfl | rfl | rfl | rfl | rfl | rfl
    · obtain rfl := ex (by decide)
      obtain rfl := es (by decide)
      obtain rfl := en (by decide)
      obtain rfl := ei (by decide) (by decide)
      exact ⟨.null, by rw [ofJ], dF, by unfold smJ; trivial, by unfold wfJ; trivial, by rw [textT, textJ]; simp, by rw [lenT, lenJ]; simp⟩
    · obtain rfl := ex (by decide)
      obtain rfl := es (by decide)
      obtain rfl := en (by decide)
      obtain rfl := ei (by decide) (by decide)
      exact ⟨.fls, by rw [ofJ], dF, by unfold smJ; trivial, by unfold wfJ; trivial, by rw [textT, textJ]; simp, by rw [lenT, lenJ]; simp⟩
    · obtain rfl := ex (by decide)
      obtain rfl := es (by decide)
      obtain rfl := en (by decide)
      obtain rfl := ei (by decide) (by decide)
      exact ⟨.tru, by rw [ofJ], dF, by unfold smJ; trivial, by unfold wfJ; trivial, by rw [textT, textJ]; simp, by rw [lenT, lenJ]; simp⟩
    · obtain rfl := es (by decide)
      obtain rfl := en (by decide)
      obtain rfl := ei (by decide) (by decide)
      exact ⟨.int x, by rw [ofJ], dF, hR.1, by unfold wfJ; trivial, by rw [textT, textJ]; simp, by rw [lenT, lenJ]; simp⟩
    · obtain rfl := ex (by decide)
      obtain rfl := en (by decide)
      obtain rfl := ei (by decide) (by decide)
      have hsz : s.size ≤ 65536 := by
        rw [show lenT (.node 4 0 s [] []) = (qT s).length by rw [lenT]; simp] at hl
        have := qT_len s
        omega
      exact ⟨.text s, by rw [ofJ], ⟨dF, hsz, ha5⟩, ⟨hsz, ha5⟩, by unfold wfJ; trivial, by rw [textT, textJ]; simp, by rw [lenT, lenJ]; simp⟩
    · obtain rfl := ex (by decide)
      obtain rfl := es (by decide)
      obtain rfl := en (by decide)
      obtain ⟨js, f1, f2, f3, f4, f5, f6⟩ := sub (.inl rfl)
      have hlen : its.length = js.length := by rw [f1, ofL_len]
      have hl5 := hl
      rw [lenT_nest (.inl rfl)] at hl5
      refine ⟨.list js, by rw [ofJ, ← f1], ?_, ?_, ?_, ?_, ?_⟩
      · unfold okJ; exact ⟨dN (.inl rfl), by omega, f2⟩
      · unfold smJ; exact ⟨by omega, f3⟩
      · unfold wfJ; exact f4
      · rw [textT_list, textJ_list, f5, hlen]
      · rw [lenT_nest (.inl rfl), lenJ, f6, hlen, nameSum]; omega
    · obtain rfl := ex (by decide)
      obtain rfl := es (by decide)
      obtain ⟨js, f1, f2, f3, f4, f5, f6⟩ := sub (.inr rfl)
      have hlen : its.length = js.length := by rw [f1, ofL_len]
      have hl5 := hl
      rw [lenT_nest (.inr rfl)] at hl5
      have hnl := ha6 rfl
      obtain ⟨m1, m2, m3⟩ := members_zero ns its [] (h06 rfl) hnl
      have hok : ∀ i, i < ns.length → okT (nth ns i) := fun i hi => ⟨by have := nameSum_at (nth_at hi); have := qT_len (nth ns i); omega, hcn _ (List.mem_of_getElem? (nth_at hi))⟩
      refine ⟨.obj ns js, by rw [ofJ, ← f1], ?_, ?_, ?_, ?_, ?_⟩
      · unfold okJ
        exact ⟨dN (.inr rfl), by omega, fun i hi => ⟨(hok i hi).1, (hok i hi).2, by simpa using m3 i hi⟩, f2⟩
      · unfold smJ; exact ⟨by omega, hok, f3⟩
      · unfold wfJ; exact ⟨by omega, f4⟩
      · rw [textT_obj, textJ_obj, f5, hlen]
      · rw [lenT_nest (.inr rfl), lenJ, f6, hlen, nameSum_upTo]
termination_by SizeOf.sizeOf t
decreasing_by simp only [Tr.node.sizeOf_spec]; omega

theorem vrep_row {w : World} {lo n : Nat} {it : Value} {xs : List Value} {k x : Int} {s : ByteArray} {nm : Value} {ns : List ByteArray} {its : List Tr} (h2 : w.ownsRow lo 25 5 it n xs) (hn : its.length = n) (hnm : Reads w nm ns) (hI : ItemsRep w its xs) : VRep w (.node k x s ns its) (five k x s nm it) := by
  subst hn
  unfold VRep
  rcases h2.2 with ⟨rfl, h0⟩ | ⟨g, cap, cur, rfl, hg, hh, -⟩
  · have h0' : its = [] := List.eq_nil_of_length_eq_zero h0
    subst h0'
    exact ⟨nm, none, 0, rfl, hnm, ⟨Nat.le_refl _, by omega⟩, .inl rfl⟩
  · exact ⟨nm, _, cap, rfl, hnm, row_cap h2, .inr ⟨g, 0, rfl, (Array.getElem?_eq_some_iff.1 hh).1, ItemsRep.list its xs 0 hI (fun j u hj => by rw [Nat.zero_add]; exact row_cell h2 j u hj)⟩⟩
theorem reads_nil (w : World) : Reads w nilS [] := ⟨none, 0, rfl, ⟨Nat.le_refl _, by omega⟩, .inl rfl⟩
theorem vrep_flat (w : World) (k x : Int) (s : ByteArray) : VRep w (.node k x s [] []) (five k x s nilS nilS) := by
  unfold VRep
  exact ⟨nilS, none, 0, rfl, reads_nil w, ⟨Nat.le_refl _, by omega⟩, .inl rfl⟩
mutual
theorem rep_vrep {w : World} {lo hi : Nat} : (j : J) → (cs : List Value) → Rep w lo hi j cs → VRep w (ofJ j) cs
  | .null, cs, h => by
    have h' : cs = five 0 0 noS nilS nilS := h
    rw [h', ofJ]; exact vrep_flat w _ _ _
  | .fls, cs, h => by
    have h' : cs = five 1 0 noS nilS nilS := h
    rw [h', ofJ]; exact vrep_flat w _ _ _
  | .tru, cs, h => by
    have h' : cs = five 2 0 noS nilS nilS := h
    rw [h', ofJ]; exact vrep_flat w _ _ _
  | .int x, cs, h => by
    have h' : cs = five 3 x noS nilS nilS := h
    rw [h', ofJ]; exact vrep_flat w _ _ _
  | .text s, cs, h => by
    have h' : cs = five 4 0 s nilS nilS := h
    rw [h', ofJ]; exact vrep_flat w _ _ _
  | .list l, cs, h => by
    unfold Rep at h
    obtain ⟨it, xs, h1, h2, h3, h4⟩ := h
    rw [ofJ]
    have h1' : cs = five 5 0 noS nilS it := h1
    rw [h1']
    exact vrep_row h2 (ofL_len l) (reads_nil w) (repL_items l xs h4)
  | .obj ns l, cs, h => by
    unfold Rep at h
    obtain ⟨nm, it, xs, h1, hnm, -, h2, h3, -, h4⟩ := h
    rw [ofJ]
    have h1' : cs = five 6 0 noS nm it := h1
    rw [h1']
    exact vrep_row h2 (ofL_len l) (reads_own hnm) (repL_items l xs h4)
theorem repL_items {w : World} {lo hi : Nat} {obs : List Nat} : (l : List J) → (xs : List Value) → RepL w lo hi obs l xs → ItemsRep w (ofL l) xs
  | [], xs, h => by
    unfold RepL at h
    rw [ofL]; unfold ItemsRep; exact h
  | j :: js, xs, h => by
    unfold RepL at h
    obtain ⟨lo', hi', -, -, -, -, h5, h6, h7⟩ := h
    rw [ofL]
    unfold ItemsRep
    exact ⟨xs.take 5, xs.drop 5, (List.take_append_drop 5 xs).symm, by rw [List.length_take]; omega, rep_vrep j _ h6, repL_items js _ h7⟩
end
end Go.Proofs.YtjhefkojfojjdaaGreatDoor.Tree
