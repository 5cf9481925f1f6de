import Derived.Test.YtbhjbicbgmeboaaQB
import Derived.Test.YtbhjbicbgmeboaaD5
/-! newTree, follow. -/
namespace Go.Proofs.Ytbhjbicbgmeboaa
open Go Go.RowKit

theorem node_info : (Try.prog.info? 81).map (fun i => (i.zero, i.size, i.bytes)) = some (some (.agg #[.bool false, .bool false]), 2, 2) := by kernel_rfl
theorem mk_nodes (w : World) : (Instr.makeSlice 77 (.int .i64 1) (.int .i64 1)).run Try.prog w = .ok (.slice (some ⟨w.heap.size, 0, none⟩) 1 1) (w.alloc (.cells #[.bool false, .bool false] 81)) := by kernel_rfl
theorem nw1 (w : World) (o o2 o3 : Obj) : (((w.alloc o).alloc o2).alloc o3).heap[w.heap.size]? = some o := by
  rw [Below.heap_alloc _ _ _ (by simp; omega), Below.heap_alloc _ _ _ (by simp)]
  exact heap_alloc_new w o
theorem nw2 (w : World) (o o2 o3 : Obj) : (((w.alloc o).alloc o2).alloc o3).heap[w.heap.size + 1]? = some o2 := by
  rw [Below.heap_alloc _ _ _ (by simp)]
  exact new2 w o o2
theorem nw3 (w : World) (o o2 o3 : Obj) : (((w.alloc o).alloc o2).alloc o3).heap[w.heap.size + 1 + 1]? = some o3 := by
  have := new2 (w.alloc o) o2 o3
  rwa [World.size_alloc] at this
set_option maxHeartbeats 2000000 in
set_option maxRecDepth 100000 in
theorem new_tree (w : World) :
    Calls Try.prog 27 #[] w fun e w' => ∃ tb mb nb cap D, e = .returned (.pointer (some ⟨tb, 0, none⟩)) ∧ TreeAt w' w.heap.size tb mb nb cap D [[]] [(false, false)] ∧ Below w.heap.size w w' := by
  have hmm := @run_makeMap Try.prog
  have hms := mk_nodes
  go_enter Try.func27, Try.ntmps27
  go_wp2
  go_ret
  refine ⟨_, w.heap.size, w.heap.size + 1, 1, .map [], rfl, ⟨?_, ?_, ?_, ?_, mapis_init⟩, ?_⟩
  · exact nw3 w _ _ _
  · exact (((World.ownsMap_made w _ _ _).mono (Nat.zero_le _)).alloc _).alloc _
  · exact ⟨rfl, .inr ⟨_, _, _, rfl, by omega, nw2 w _ _ _, Nat.le_refl _, by unfold maxLen; omega, rfl, rfl⟩⟩
  · simp; omega
  · exact ((((Below.refl _ w).alloc (Nat.le_refl _) _).alloc (by simp) _).alloc (by simp; omega) _)
/-- follow, where the step leads somewhere. -/
theorem tree_loads {w : World} {base tb mb nb cap : Nat} {D : DataW Unit} {P : List Pth} {E : List (Bool × Bool)} (h : TreeAt w base tb mb nb cap D P E) : w.cell? ⟨tb, 0, none⟩ = some (.map (some mb)) ∧ w.cell? ⟨tb, 1, none⟩ = some (.slice (some ⟨nb, 0, none⟩) E.length cap) := by
  have := h.box
  constructor <;> simp [World.cell?, this]
set_option maxHeartbeats 2000000 in
set_option maxRecDepth 100000 in
theorem follow_old (base tb mb nb cap : Nat) (D : DataW Unit) (P : List Pth) (E : List (Bool × Bool)) (cur : Pth) (s : ByteArray) (i j : Nat) (w : World) (hT : TreeAt w base tb mb nb cap D P E) (hi : P[i]? = some cur) (hj : P[j]? = some (cur ++ [s])) (hP : i ≤ 1099511627776) (hs : s.size ≤ maxLen) :
    Calls Try.prog 42 #[.pointer (some ⟨tb, 0, none⟩), .int .i64 i, .string s] w fun e w' => e = .returned (.int .i64 j) ∧ w' = w := by
  obtain ⟨c0, c1⟩ := tree_loads hT
  obtain ⟨hh, hv⟩ := hT.look.hit i s cur j hP hs hi hj
  have hm := hid_of hT.map
  have hkey := hid_of (key_of hP hs)
  replace hh := hid_of hh
  replace hv := hid_of hv
  clear hT hi hj
  go_enter Try.func42, Try.ntmps42
  go_wp2_with (at_lookup; refine wpList_lookup_own_ok_int _ rfl _ _ 76 rfl 92 3 .i64 step_law Try.underlying76 Try.underlying3 (Try.zeroValue3 w) mb P.length D rfl hm.out _ (kl i s) rfl hkey.out ?_; rw [hh.out, hv.out]; intro c hc hwc; obtain rfl : (j : Int) = c := (by simpa using hc); clear hc hwc)
  go_ret
  exact ⟨rfl, rfl⟩
/-- Behind the append, and the new list's store. -/
theorem fol1 {w w4 : World} {base tb mb nb cap g c4 : Nat} {D : DataW Unit} {P : List Pth} {E : List (Bool × Bool)} {o : Obj} (hT : TreeAt w base tb mb nb cap D P E) (hbase : base ≤ w.heap.size) (hown : w4.ownsRow base 81 2 (.slice (some ⟨g, 0, none⟩) (E.length + 1) c4) (E.length + 1) (flat E ++ [.bool false, .bool false])) (hgrow : (w.alloc o).grownBy w4 (Value.slice (some ⟨nb, 0, none⟩) E.length cap).ownBlock)
    (hat : (Value.slice (some ⟨nb, 0, none⟩) E.length cap).ownBlock = some g ∨ g = (w.alloc o).heap.size) {W5 : World} (hW5 : w4.setCell ⟨tb, 1, none⟩ (.slice (some ⟨g, 0, none⟩) (E.length + 1) c4) = W5) :
    (w4.cell? ⟨tb, 1, none⟩ = some (.slice (some ⟨nb, 0, none⟩) E.length cap) ∧ w4.frozen? ⟨tb, 1, none⟩ = false) ∧ W5.heap[tb]? = some (.cells #[.map (some mb), .slice (some ⟨g, 0, none⟩) (E.length + 1) c4] 79 (0, 0)) ∧ W5.ownsMap Try.prog 92 (plainElem Try.prog 3) mb P.length D ∧ W5.ownsRow base 81 2 (.slice (some ⟨g, 0, none⟩) (E.length + 1) c4) (E.length + 1) (flat E ++ [.bool false, .bool false]) ∧ Below base w W5 ∧ (g ≠ tb ∧ g ≠ mb ∧ base ≤ g) := by
  obtain ⟨h1, h2, h3, h4, h5, h6, h7, h8, h9⟩ := hT.apart
  have hfar : ∀ j, j < w.heap.size → j ≠ nb → w4.heap[j]? = w.heap[j]? := fun j hj hne => (hgrow.block j (by rw [World.size_alloc]; omega) (fun e => by simp [Value.ownBlock] at e; exact hne e)).trans (Below.heap_alloc w o j hj)
  have hg : g ≠ tb ∧ g ≠ mb ∧ base ≤ g := by
    rcases hat with e | e
    · simp [Value.ownBlock] at e; subst e; exact ⟨fun e => h2 e.symm, fun e => h3 e.symm, h4⟩
    · rw [World.size_alloc] at e; omega
  have hbox := (hfar tb h6 h2).trans hT.box
  have h7' : ∀ j, j ≠ tb → W5.heap[j]? = w4.heap[j]? := fun j hj => by rw [← hW5]; exact Below.heap_setCell _ _ _ _ hj
  have s5 : W5.heap.size = w4.heap.size := by rw [← hW5]; simp [World.setCell]
  have hsz := hgrow.size
  rw [World.size_alloc] at hsz
  refine ⟨⟨by simp [World.cell?, hbox], by simp [World.frozen?, hbox]⟩, ?_, ?_, ?_, ⟨?_, ?_, ?_, by omega, fun j hj => ?_⟩, hg⟩
  · rw [← hW5]
    simp [World.setCell, Array.getElem?_modify, hbox]
  · obtain ⟨es, cl, hm, r⟩ := hT.map
    exact ⟨es, cl, ((h7' mb (fun e => h1 e.symm)).trans (hfar mb h7 h3)).trans hm, r⟩
  · exact ownsRow_keep hown (fun g' hg' => by cases hg'; exact h7' _ hg.1)
  · rw [← hW5]; exact hgrow.os
  · rw [← hW5]; exact hgrow.tape
  · rw [← hW5]; exact hgrow.output
  · have hl := hT.lo
    exact (h7' j (by omega)).trans (hfar j (by omega) (by omega))
/-- Behind the map's store, and that of the node. -/
theorem fol2 {w W5 w6 : World} {base tb mb g c4 n : Nat} {D' : DataW Unit} {P' : List Pth} {E : List (Bool × Bool)} {e : Bool × Bool} {i : Nat} (hi : E[i]? = some e) (hlo : base ≤ tb ∧ base ≤ mb) (hg : g ≠ tb ∧ g ≠ mb ∧ base ≤ g) (hne : tb ≠ mb) (hB : Below base w W5) (hbox : W5.heap[tb]? = some (.cells #[.map (some mb), .slice (some ⟨g, 0, none⟩) (E.length + 1) c4] 79 (0, 0))) (hrow : W5.ownsRow base 81 2 (.slice (some ⟨g, 0, none⟩) (E.length + 1) c4) (E.length + 1) (flat E ++ [.bool false, .bool false]))
    (hown : w6.ownsMap Try.prog 92 (plainElem Try.prog 3) mb n D') (hn : n ≤ P'.length) (hgrow : W5.grownBy w6 (some mb)) (hl : MapIs P' D') :
    w6.cell? ⟨tb, 1, none⟩ = some (.slice (some ⟨g, 0, none⟩) (E.length + 1) c4) ∧ w6.cell? ⟨g, i * 2 + 1, none⟩ = some (.bool e.2) ∧ w6.frozen? ⟨g, i * 2 + 1, none⟩ = false ∧ TreeAt (w6.setCell ⟨g, i * 2 + 1, none⟩ (.bool true)) base tb mb g c4 D' P' (E.set i (e.1, true) ++ [(false, false)]) ∧ Below base w (w6.setCell ⟨g, i * 2 + 1, none⟩ (.bool true)) := by
  have hil : i < E.length := (List.getElem?_eq_some_iff.1 hi).1
  have hgl : g < W5.heap.size := (ownsRow_ge hrow (g := g) rfl).2
  have htl : tb < W5.heap.size := (Array.getElem?_eq_some_iff.1 hbox).1
  have hk : ∀ j, j < W5.heap.size → j ≠ mb → w6.heap[j]? = W5.heap[j]? := fun j hj hne => hgrow.block j hj (fun e => by cases e; exact hne rfl)
  have hbox6 := (hk tb htl hne).trans hbox
  have hrow6 := ownsRow_keep hrow (w' := w6) (fun g' hg' => by cases hg'; exact hk _ hgl hg.2.1)
  have hcell : w6.cell? ⟨g, i * 2 + 1, none⟩ = some (.bool e.2) := ownsRow_cell hrow6 (by
    rw [List.getElem?_append_left (by rw [flat_len]; omega)]
    exact (flat_at E i e hi).2)
  have hfz : w6.frozen? ⟨g, i * 2 + 1, none⟩ = false := by
    obtain ⟨_, h2⟩ := hrow6
    rcases h2 with ⟨hv, _⟩ | ⟨g', cap', cur, hv, _, hh, _⟩
    · cases hv
    · cases hv; simp [World.frozen?, hh]
  refine ⟨by simp [World.cell?, hbox6], hcell, hfz, ⟨?_, ?_, ?_, hlo, hl⟩, ?_⟩
  · rw [Below.heap_setCell _ _ _ _ (fun e => hg.1 e.symm), hbox6]
    simp
  · obtain ⟨es, cl, hm, r⟩ := hown.mono hn
    exact ⟨es, cl, by rw [Below.heap_setCell _ _ _ _ (fun e => hg.2.1 e.symm)]; exact hm, r⟩
  · have := ownsRow_set hrow6 (i * 2 + 1) (.bool true)
    rw [List.set_append_left _ _ (by rw [flat_len]; omega), flat_set2 E i e true hi] at this
    simp only [List.length_append, List.length_set, List.length_cons, List.length_nil, Nat.zero_add, flat_snoc]
    exact this
  · have h1 : Below base W5 w6 := grown_below hgrow (by omega) (fun g' hg' => by cases hg'; exact hlo.2)
    exact (hB.trans h1).setCell (p := ⟨g, i * 2 + 1, none⟩) hg.2.2 _
set_option maxHeartbeats 2000000 in
set_option maxRecDepth 100000 in
theorem follow_new (base tb mb nb cap : Nat) (D : DataW Unit) (L : List Pth) (P : List Pth) (E : List (Bool × Bool)) (cur : Pth) (s : ByteArray) (i : Nat) (w : World) (hbase : base ≤ w.heap.size) (hT : TreeAt w base tb mb nb cap D P E) (hI : Inv L cur P E) (hi : P[i]? = some cur) (hn : cur ++ [s] ∉ P) (hP : P.length ≤ 1099511627776) (hs : s.size ≤ maxLen) :
    Calls Try.prog 42 #[.pointer (some ⟨tb, 0, none⟩), .int .i64 i, .string s] w fun r w' => ∃ nb' cap' D' E', r = .returned (.int .i64 P.length) ∧ TreeAt w' base tb mb nb' cap' D' (P ++ [cur ++ [s]]) E' ∧ Inv L (cur ++ [s]) (P ++ [cur ++ [s]]) E' ∧ Below base w w' := by
  have hip : i < P.length := (List.getElem?_eq_some_iff.1 hi).1
  obtain ⟨e, he⟩ : ∃ e, E[i]? = some e := ⟨_, List.getElem?_eq_getElem (by rw [hI.len]; exact hip)⟩
  obtain ⟨c0, c1⟩ := tree_loads hT
  have hI2 := hI.new hi he hn
  have hput := hid_of (hT.look.put (by exact hT.map.isMap) hi hn hI2.nodup hI.nodup (hI.kid hn) (by omega) hs)
  have hh := hid_of (hT.look.miss i s cur (by omega) hs hi hn)
  have hkey := hid_of (key_of (i := i) (by omega) hs)
  have hm := hid_of hT.map
  have hwP : Hid ((Lit.int .i64 (P.length : Int)).wf = true) := by
    have h1 : IntKind.i64.min = -9223372036854775808 := by decide
    have h2 : IntKind.i64.max = 9223372036854775807 := by decide
    simp [Hid, Lit.wf, h1, h2]; omega
  obtain ⟨h1, h2, h3, h4, h5, h6, h7, h8, h9⟩ := hT.apart
  obtain ⟨i81, hi81, hz0, hz1, hz2⟩ := info_parts node_info
  have hEP : Hid (E.length = P.length) := hI.len
  replace hI2 := hid_of hI2
  replace hT := hid_of hT
  replace he := hid_of he
  replace hip := hid_of hip
  replace h1 := hid_of h1
  have hEb : Hid (E.length ≤ 1099511627776) := by have := hEP.out; simp only [Hid]; omega
  clear hI hi hn h2 h3 h4 h5 h6 h7 h8 h9
  go_enter Try.func42, Try.ntmps42
  go_wp2_with (first
    | rw [hW5.out]
    | (at_mapUpdate; refine wpList_mapUpdate_own _ rfl _ _ _ 76 rfl 92 3 step_law Try.underlying76 _ mb P.length D rfl um.out (by unfold maxLen; omega) _ _ (kl i s) rfl rfl hkey.out (.lit (.int .i64 P.length)) [] (by rw [hEP.out]; exact plainElem_int Try.underlying3 hwP.out) ?_; intro w6 hown6 hgrow6; obtain ⟨x1, x2, x3, x4, x5⟩ := fol2 he.out hT.out.lo ug.out h1.out ub.out ubox.out ur.out hown6 (by simp) hgrow6 hput.out; clear hown6 hgrow6; replace x4 := hid_of x4; replace x5 := hid_of x5; have hlt : i < E.length := (by have := hip.out; have := hEP.out; omega))
    | (at_lookup; refine wpList_lookup_own_ok_int _ rfl _ _ 76 rfl 92 3 .i64 step_law Try.underlying76 Try.underlying3 (Try.zeroValue3 w) mb P.length D rfl hm.out _ (kl i s) rfl hkey.out ?_; rw [hh.out]; intro c hc hwc; clear hc hwc)
    | (at_builtin; refine wpList_append_lies _ rfl _ _ 77 rfl base 81 i81 _ 2 2 Try.underlying77 hi81 hz0 hz1 hz2 rfl (by decide) _ E.length (flat E) rfl (hT.out.row.alloc _) _ 1 1 [.bool false, .bool false] rfl rfl (World.news_of_block (heap_alloc_new w _)) (by decide) (by decide) (by have := hEb.out; unfold maxLen; omega) (by have := hEb.out; omega) (by simp only [World.size_alloc]; omega) _ rfl ?_; intro g c4 w4 hown4 hgrow4 hat4 hlt4; obtain ⟨W5, hW5⟩ : ∃ W5, Hid (w4.setCell ⟨tb, 1, none⟩ (.slice (some ⟨g, 0, none⟩) (E.length + 1) c4) = W5) := ⟨_, rfl⟩; obtain ⟨⟨u1, u2⟩, ubox, um, ur, ub, ug⟩ := fol1 hT.out hbase hown4 hgrow4 hat4 hW5.out; clear hown4 hgrow4 hat4 hlt4; have v0 : W5.cell? ⟨tb, 0, none⟩ = some (.map (some mb)) := (by simp [World.cell?, ubox]); replace ubox := hid_of ubox; replace um := hid_of um; replace ur := hid_of ur; replace ub := hid_of ub; replace ug := hid_of ug))
  go_ret
  exact ⟨g, c4, _, _, by rw [hEP.out]; rfl, x4.out, hI2.out, x5.out⟩
end Go.Proofs.Ytbhjbicbgmeboaa
