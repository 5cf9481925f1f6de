import Derived.Test.YthijpmomcompaaaDoorPA
/-! A list of Values copied. -/
namespace Go.Proofs.YthijpmomcompaaaDoor
open Go Go.RowKit

/-- An item: its cells, what they read as. -/
structure El where
  cs : List Value
  t : Tr
def cellsE (es : List El) : List Value := es.flatMap (·.cs)
def treesE (es : List El) : List Tr := es.map (·.t)
def Five (cs : List Value) : Prop := ∃ k x s an ln cn ai li ci, cs = five k x s (.slice an ln cn) (.slice ai li ci)
theorem Five.len {cs : List Value} (h : Five cs) : cs.length = 5 := by obtain ⟨k, x, s, an, ln, cn, ai, li, ci, rfl⟩ := h; rfl
/-- Items in a row of their own. -/
structure LAt (base : Nat) (w : World) (v : Value) (es : List El) : Prop where
  row : w.ownsRow base 31 5 v es.length (cellsE es)
  fives : ∀ e ∈ es, Five e.cs
  seen : ∀ e ∈ es, ∀ W', Agree (fun j => base ≤ j ∧ v.ownBlock ≠ some j) w W' → VRep W' e.t e.cs
theorem LAt.nil (base : Nat) (w : World) : LAt base w (.slice none 0 0) [] := ⟨World.ownsRow_nil _ _ _ _, (fun e h => by cases h), (fun e h => by cases h)⟩
theorem LAt.keep {base : Nat} {w w' : World} {v : Value} {es : List El} (h : LAt base w v es) (hb : Below w.heap.size w w') : LAt base w' v es :=
  ⟨ownsRow_below h.row hb, h.fives, fun e he W' hW => h.seen e he W' ⟨Nat.le_trans hb.size hW.1, fun p u hp hc => hW.2 p u hp (stay hb hc)⟩⟩
theorem LAt.app {base : Nat} {wr w2 w3 : World} {v : Value} {es : List El} {u : Tr} {cs : List Value} {g4 cap4 : Nat} (h : LAt base wr v es) (hf : Five cs) (hbase : base ≤ wr.heap.size)
    (hu : Seen w2 (fun j => wr.heap.size ≤ j) u cs) (hb2 : Below wr.heap.size wr w2) (hgrow : (w2.alloc (.cells cs.toArray 31)).grownBy w3 v.ownBlock) (hat : v.ownBlock = some g4 ∨ g4 = (w2.alloc (.cells cs.toArray 31)).heap.size)
    (hown3 : w3.ownsRow base 31 5 (.slice (some ⟨g4, 0, none⟩) (es.length + 1) cap4) (es.length + 1) (cellsE es ++ cs)) : LAt base w3 (.slice (some ⟨g4, 0, none⟩) (es.length + 1) cap4) (es ++ [⟨cs, u⟩]) := by
  have hs2 := hb2.size
  have hs3 := hgrow.size
  rw [World.size_alloc] at hs3 hat
  have own_lt : ∀ j, v.ownBlock = some j → base ≤ j ∧ j < wr.heap.size := fun j hj => ownsRow_ge h.row hj
  have far3 : ∀ j, j < wr.heap.size → v.ownBlock ≠ some j → w3.heap[j]? = wr.heap[j]? := fun j hj hne =>
    (hgrow.block j (by rw [World.size_alloc]; omega) (fun e => hne e.symm)).trans ((Below.heap_alloc w2 _ j (by omega)).trans (hb2.block j hj))
  refine ⟨by simpa [cellsE, List.flatMap_append] using hown3, fun e he => ?_, fun e he W' hW => ?_⟩
  · rcases List.mem_append.1 he with he | he
    · exact h.fives e he
    · rw [List.mem_singleton.1 he]; exact hf
  · rcases List.mem_append.1 he with he | he
    · refine h.seen e he W' ⟨by have := hW.1; omega, fun p v' hp hv => hW.2 p v' ⟨hp.1, ?_⟩ ?_⟩
      · intro e
        have : g4 = p.block := by simpa [Value.ownBlock] using e
        rcases hat with h' | h'
        · exact hp.2 (by rw [h', this])
        · have := lt_of_cell hv; omega
      · have hl := lt_of_cell hv
        exact (World.cell?_of_block (w := wr) (a := p) (far3 _ hl hp.2)).trans hv
    · rw [List.mem_singleton.1 he]
      refine hu W' ⟨by have := hW.1; omega, fun p v' hp hv => hW.2 p v' ⟨by omega, ?_⟩ ?_⟩
      · intro e
        have : g4 = p.block := by simpa [Value.ownBlock] using e
        have hl := lt_of_cell hv
        rcases hat with h' | h'
        · have := own_lt _ h'; omega
        · omega
      · have hl := lt_of_cell hv
        refine (World.cell?_of_block (w := w2) (a := p) ((hgrow.block _ (by rw [World.size_alloc]; omega) (fun e => ?_)).trans (Below.heap_alloc w2 _ _ hl))).trans hv
        have := own_lt _ e.symm
        omega
theorem cellsE_at : (es : List El) → (∀ e ∈ es, Five e.cs) → (q : Nat) → (e : El) → es[q]? = some e → ∀ j u, e.cs[j]? = some u → (cellsE es)[q * 5 + j]? = some u
  | [], _, _, _, h, _, _, _ => by simp at h
  | e0 :: es, hf, 0, e, h, j, u, hj => by
    have : e0 = e := by simpa using h
    subst this
    show (e0.cs ++ cellsE es)[0 * 5 + j]? = some u
    rw [List.getElem?_append_left (by have := (List.getElem?_eq_some_iff.1 hj).1; omega)]
    simpa using hj
  | e0 :: es, hf, q + 1, e, h, j, u, hj => by
    show (e0.cs ++ cellsE es)[(q + 1) * 5 + j]? = some u
    have h5 := (hf e0 (by simp)).len
    rw [List.getElem?_append_right (by omega), show (q + 1) * 5 + j - e0.cs.length = q * 5 + j by omega]
    exact cellsE_at es (fun e he => hf e (by simp [he])) q e (by simpa using h) j u hj
theorem vrepL_of {W : World} {b : Nat} : (es : List El) → (∀ e ∈ es, Five e.cs) → (o : Nat) → (∀ e ∈ es, VRep W e.t e.cs) → (∀ j u, (cellsE es)[j]? = some u → W.cell? ⟨b, o + j, none⟩ = some u) → VRepL W b o (treesE es)
  | [], _, _, _, _ => by unfold treesE VRepL; trivial
  | e :: es, hf, o, hv, hc => by
    show VRepL W b o (e.t :: treesE es)
    unfold VRepL
    have h5 := (hf e (by simp)).len
    have hc' : ∀ j u, (e.cs ++ cellsE es)[j]? = some u → W.cell? ⟨b, o + j, none⟩ = some u := hc
    refine ⟨e.cs, fun j u hj => hc' j u (by rw [List.getElem?_append_left (List.getElem?_eq_some_iff.1 hj).1]; exact hj), hv e (by simp), vrepL_of es (fun e he => hf e (by simp [he])) (o + 5) (fun e he => hv e (by simp [he])) (fun j u hj => ?_)⟩
    have := hc' (5 + j) u (by rw [List.getElem?_append_right (by omega), h5, Nat.add_sub_cancel_left]; exact hj)
    rwa [show o + 5 + j = o + (5 + j) by omega]
theorem LAt.slice {base : Nat} {w : World} {v : Value} {es : List El} (h : LAt base w v es) : ∃ a c, v = .slice a es.length c := ownsRow_slice h.row
theorem LAt.list {base : Nat} {w : World} {a : Option Addr} {n c : Nat} {es : List El} (h : LAt base w (.slice a n c) es) : ListAt w a c (treesE es) := by
  have hv : ∀ e ∈ es, VRep w e.t e.cs := fun e he => h.seen e he w ⟨Nat.le_refl _, fun _ _ _ hc => hc⟩
  have hl : (treesE es).length = es.length := by simp [treesE]
  have hr := h.row
  rcases hr.2 with ⟨e, h0⟩ | ⟨g, cap, cur, e, hg, hh, hc, hm, hs, ht⟩
  · cases e
    have : es = [] := List.eq_nil_of_length_eq_zero h0
    subst this
    exact ⟨⟨Nat.le_refl _, by omega⟩, .inl rfl⟩
  · cases e
    refine ⟨⟨by rw [hl]; exact hc, by unfold maxLen at hm; omega⟩, .inr ⟨g, 0, rfl, (Array.getElem?_eq_some_iff.1 hh).1, vrepL_of es h.fives 0 hv (fun j u hj => ?_)⟩⟩
    rw [Nat.zero_add]
    exact row_cell hr j u hj
set_option maxHeartbeats 4000000 in
set_option maxRecDepth 100000 in
theorem copied_any (a : Option Addr) (c n : Nat) (its : List Tr) (w : World) (hn : its.length = n) (hnn : n * 80 ≤ 140737488351232) (hV : ListAt w a c its) (hS : SmallL its) :
    Calls Tryd.prog 5 #[.slice a n c] w fun e w' => ∃ v es, e = .returned v ∧ LAt w.heap.size w' v es ∧ treesE es = its ∧ Below w.heap.size w w' := by
  obtain ⟨i0, hi, hz0, hz1, hz2⟩ := info_parts AV
  have n0 : (0 : Int) ≤ (n : Int) := by omega
  have n1 : (n : Int) ≤ 4611686018427387904 := by omega
  replace hn := hid_e hn
  replace hV := hid_e hV
  replace hS := hid_e hS
  go_enter Tryd.func5, Tryd.ntmps5
  go_wp2_with fail
  go_loopw [3, 4] (fun ov iv wr => ∃ (q : Nat) (ao : Option Addr) (co : Nat) (es : List El), ov = .slice ao q co ∧ iv = .int .i64 q ∧ q ≤ n ∧ Hid (es.length = q) ∧ Hid (LAt w.heap.size wr (.slice ao q co) es) ∧ Hid (treesE es = its.take q) ∧ Hid (Below w.heap.size w wr)) (fun _ iv _ => n - (intOf iv).toNat)
  case atStart => exact ⟨0, none, 0, [], rfl, rfl, Nat.zero_le _, rfl, LAt.nil _ _, rfl, Below.refl _ _⟩
  case round =>
    obtain ⟨q, ao, co, es, rfl, rfl, hq, hel, hL, ht, hb⟩ := hrel
    by_cases hlt : q < n
    · have q1 : (q : Int) < (n : Int) := by omega
      have q0 : (0 : Int) ≤ (q : Int) := by omega
      obtain ⟨u, hu⟩ : ∃ u, Hid (its[q]? = some u) := ⟨its[q]'(by rw [hn.out]; omega), List.getElem?_eq_getElem (by rw [hn.out]; omega)⟩
      obtain ⟨b, o, k1, x1, s1, an1, ln1, cn1, ai1, li1, ci1, ea, hlb, hc1, hv1⟩ := (hV.out.keep hb.out).item hu.out
      subst ea
      have call := hid_e (copy_any u _ wr hv1 (SmallL.at hS.out hu.out))
      obtain ⟨x10, x11, x12, x13, x14⟩ := cells5 hc1
      have hsz := hid_e hb.out.size
      clear hc1 hv1 hlb
      go_wp2_with fail
      refine call.out.mono ?_
      rintro e w2 ⟨k3, x3, s3, an3, ln3, cn3, ai3, li3, ci3, rfl, hu3, hb2⟩
      replace hu3 := hid_e hu3
      replace hb2 := hid_e hb2
      have hrow2 : Hid ((w2.alloc (.cells #[.int .i64 k3, .int .i64 x3, .string s3, .slice an3 ln3 cn3, .slice ai3 li3 ci3] 31)).ownsRow w.heap.size 31 5 (.slice ao q co) q (cellsE es)) := by
        have h := hL.out.row
        rw [hel.out] at h
        exact (ownsRow_below h hb2.out).alloc _
      have hbb : Hid (w.heap.size ≤ (w2.alloc (.cells #[.int .i64 k3, .int .i64 x3, .string s3, .slice an3 ln3 cn3, .slice ai3 li3 ci3] 31)).heap.size) := by rw [World.size_alloc]; have := hsz.out; have := hb2.out.size; show _ ≤ _; omega
      clear call x10 x11 x12 x13 x14
      go_wp2_with (at_builtin; refine wpList_append_lies _ rfl _ _ 22 rfl w.heap.size 31 i0 _ 5 80 Tryd.underlying22 hi hz0 hz1 hz2 rfl (by decide) _ q (cellsE es) rfl hrow2.out _ 1 1 [.int .i64 k3, .int .i64 x3, .string s3, .slice an3 ln3 cn3, .slice ai3 li3 ci3] rfl rfl (World.news_of_block (heap_alloc_new w2 _)) (five_one _ _ _ _ _ _ _ _ _) (by decide) (by unfold maxLen; omega) (by omega) hbb.out _ rfl ?_; intro g4 cap4 w3 hown3 hgrow3 hat3 hlt3; replace hown3 := hid_e hown3; replace hgrow3 := hid_e hgrow3; replace hat3 := hid_e hat3; clear hlt3)
      have hL' : Hid (LAt w.heap.size w3 (.slice (some ⟨g4, 0, none⟩) (q + 1) cap4) (es ++ [⟨five k3 x3 s3 (.slice an3 ln3 cn3) (.slice ai3 li3 ci3), u⟩])) := by
        have hL1 := hL.out
        have e1 := hel.out
        subst e1
        exact hL1.app ⟨_, _, _, _, _, _, _, _, _, rfl⟩ hsz.out hu3.out hb2.out hgrow3.out hat3.out hown3.out
      have hb3 : Hid (Below w.heap.size w w3) := by
        have h2 : Below w.heap.size w (w2.alloc (.cells #[.int .i64 k3, .int .i64 x3, .string s3, .slice an3 ln3 cn3, .slice ai3 li3 ci3] 31)) := (hb.out.trans (hb2.out.mono hsz.out)).alloc (by have := hsz.out; have := hb2.out.size; omega) _
        exact h2.trans (grown_below hgrow3.out hbb.out (fun g hg => (ownsRow_ge hL.out.row hg).1))
      exact ⟨⟨q + 1, _, _, _, rfl, by go_num, by omega, by show _ = _; simp [hel.out], hL', by show _ = _; rw [List.take_add_one, hu.out]; have h := ht.out; unfold treesE at h ⊢; rw [List.map_append, h]; rfl, hb3⟩, by simp [intOf]; omega⟩
    · obtain rfl : q = n := by omega
      have q1 : ¬ (q : Int) < (q : Int) := by omega
      rw [List.take_of_length_le (by rw [hn.out]; omega)] at ht
      go_wp2_with fail
      go_ret
      exact ⟨_, rfl, es, hL.out, ht.out, hb.out⟩
end Go.Proofs.YthijpmomcompaaaDoor
