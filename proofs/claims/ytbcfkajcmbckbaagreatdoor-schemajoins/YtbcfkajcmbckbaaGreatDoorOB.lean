import Derived.Test.YtbcfkajcmbckbaaGreatDoorOA
import Derived.Test.YtbcfkajcmbckbaaGreatDoorUH
/-! The Values that the laws make, as trees. -/
namespace Go.Proofs.YtbcfkajcmbckbaaGreatDoor
open Go Go.RowKit

theorem row_two {w : World} {t1 t2 : Tr} {v1 v2 : V5} (h1 : VRep w t1 v1.cs) (h2 : VRep w t2 v2.cs) {g : Nat} {ty : TypeId} (hg : w.heap[g]? = some (.cells #[.int .i64 v1.k, .int .i64 v1.x, .string v1.s, .slice v1.an v1.ln v1.cn, .slice v1.ai v1.li v1.ci, .int .i64 v2.k, .int .i64 v2.x, .string v2.s, .slice v2.an v2.ln v2.cn, .slice v2.ai v2.li v2.ci] ty (0, 0))) : RowT w (some ⟨g, 0, none⟩) [t1, t2] := by
  refine .inr ⟨g, 0, rfl, (Array.getElem?_eq_some_iff.1 hg).1, rep_flat g [t1, t2] [v1, v2] 0 ⟨rfl, fun q t v ht hv => ?_⟩ (fun j u hj => ?_)⟩
  · rcases q with _ | _ | q
    · obtain rfl : t1 = t := by simpa using ht
      obtain rfl : v1 = v := by simpa using hv
      exact h1
    · obtain rfl : t2 = t := by simpa using ht
      obtain rfl : v2 = v := by simpa using hv
      exact h2
    · simp at ht
  · rw [cell_of hg, Nat.zero_add]
    simp only [flatV, List.flatMap_cons, List.flatMap_nil, V5.cs, five] at hj
    simpa using hj
theorem row_three {w : World} {t1 t2 t3 : Tr} {v1 v2 v3 : V5} (h1 : VRep w t1 v1.cs) (h2 : VRep w t2 v2.cs) (h3 : VRep w t3 v3.cs) {g : Nat} {ty : TypeId} (hg : w.heap[g]? = some (.cells #[.int .i64 v1.k, .int .i64 v1.x, .string v1.s, .slice v1.an v1.ln v1.cn, .slice v1.ai v1.li v1.ci, .int .i64 v2.k, .int .i64 v2.x, .string v2.s, .slice v2.an v2.ln v2.cn, .slice v2.ai v2.li v2.ci, .int .i64 v3.k, .int .i64 v3.x, .string v3.s, .slice v3.an v3.ln v3.cn, .slice v3.ai v3.li v3.ci] ty (0, 0))) : RowT w (some ⟨g, 0, none⟩) [t1, t2, t3] := by
  refine .inr ⟨g, 0, rfl, (Array.getElem?_eq_some_iff.1 hg).1, rep_flat g [t1, t2, t3] [v1, v2, v3] 0 ⟨rfl, fun q t v ht hv => ?_⟩ (fun j u hj => ?_)⟩
  · rcases q with _ | _ | _ | q
    · obtain rfl : t1 = t := by simpa using ht
      obtain rfl : v1 = v := by simpa using hv
      exact h1
    · obtain rfl : t2 = t := by simpa using ht
      obtain rfl : v2 = v := by simpa using hv
      exact h2
    · obtain rfl : t3 = t := by simpa using ht
      obtain rfl : v3 = v := by simpa using hv
      exact h3
    · simp at ht
  · rw [cell_of hg, Nat.zero_add]
    simp only [flatV, List.flatMap_cons, List.flatMap_nil, V5.cs, five] at hj
    simpa using hj
theorem below_drew_alloc (w : World) (o : Obj) : Below w.drew.heap.size w.drew (w.alloc o).drew := by
  have h := (Below.refl w.heap.size w).alloc (Nat.le_refl _) o
  exact ⟨h.os, h.tape, h.output, h.size, h.block⟩
/-- A list of so many. -/
abbrev listU (g n c : Nat) : V5 := ⟨5, 0, ⟨#[]⟩, none, 0, 0, some ⟨g, 0, none⟩, n, c⟩
theorem vrep_list {w : World} {g c : Nat} {l : List Tr} (h : RowT w (some ⟨g, 0, none⟩) l) (hc : l.length ≤ c ∧ c ≤ 9223372036854775807) : VRep w (listT l) (listU g l.length c).cs := by
  unfold listT VRep V5.cs
  exact ⟨_, some ⟨g, 0, none⟩, c, rfl, ⟨none, 0, rfl, ⟨Nat.le_refl _, by omega⟩, .inl rfl⟩, hc, h⟩
set_option maxHeartbeats 1000000 in
set_option maxRecDepth 100000 in
theorem list_any (g n c : Nat) (w : World) : Calls Tryz.prog 10 #[.slice (some ⟨g, 0, none⟩) n c] w fun e w' => e = .returned (listU g n c).v ∧ Below w.heap.size w w' := by
  unfold V5.v listU
  go_enter Tryz.func10, Tryz.ntmps10
  go_wp2
  go_returns
  exact ⟨rfl, (Below.refl _ w).alloc (Nat.le_refl _) _⟩
theorem object_v (s : ByteArray) (t : Tr) (u : V5) (w : World) (hV : VRep w t u.cs) :
    Calls Tryz.prog 5 #[.string s, u.v] w fun e w' => Below w.heap.size w w' ∧ ∃ bn bi, e = .returned (objU bn bi).v ∧ VRep w' (objT s t) (objU bn bi).cs :=
  (object_any s u w).mono fun _ _ ⟨hb, bn, bi, he, hn, hi⟩ => ⟨hb, bn, bi, he, vrep_obj hn hi (VRep.keep hb _ _ hV)⟩
theorem small_obj {s : ByteArray} {t : Tr} (hs : s.size ≤ 140737488351232) (h : SmallT t) : SmallT (objT s t) := by
  unfold objT
  simp only [SmallT, SmallL]
  exact ⟨by decide, by simp, fun n hn => by rw [List.mem_singleton.1 hn]; exact hs, by simp, h, trivial⟩
theorem small_list {a b : Tr} (ha : SmallT a) (hb : SmallT b) : SmallT (listT [a, b]) := by
  unfold listT
  simp only [SmallT, SmallL]
  exact ⟨by decide, by simp, fun n hn => by simp at hn, by simp, ha, hb, trivial⟩
theorem range_obj {s : ByteArray} {t : Tr} (h : RangeT t) : RangeT (objT s t) := by
  unfold objT
  simp only [RangeT, RangeL]
  exact ⟨by decide, h, trivial⟩
theorem range_list {a b : Tr} (ha : RangeT a) (hb : RangeT b) : RangeT (listT [a, b]) := by
  unfold listT
  simp only [RangeT, RangeL]
  exact ⟨by decide, ha, hb, trivial⟩
theorem smallL_mem : {l : List Tr} → (∀ t ∈ l, SmallT t) → SmallL l
  | [], _ => by unfold SmallL; trivial
  | t :: ts, h => by unfold SmallL; exact ⟨h t (by simp), smallL_mem fun x hx => h x (by simp [hx])⟩
theorem mem_smallL : {l : List Tr} → SmallL l → ∀ t ∈ l, SmallT t
  | [], _, t, h => by simp at h
  | u :: us, h, t, ht => by
    unfold SmallL at h
    rcases List.mem_cons.1 ht with rfl | ht
    · exact h.1
    · exact mem_smallL h.2 t ht
theorem small_rev {a : Tr} (h : SmallT a) : SmallT (revT a) := by
  obtain ⟨k, x, s, ns, its⟩ := a
  unfold revT
  simp only [Tr.names, Tr.items]
  simp only [SmallT] at h ⊢
  exact ⟨by decide, by simpa using h.2.1, fun n hn => h.2.2.1 n (List.mem_reverse.1 hn), by simpa using h.2.2.2.1, smallL_mem fun t ht => mem_smallL h.2.2.2.2 t (List.mem_reverse.1 ht)⟩
end Go.Proofs.YtbcfkajcmbckbaaGreatDoor
