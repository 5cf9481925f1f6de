import Derived.Test.YthijpmomcompaaaDoorPC
/-! The document's Sort of every list of Values. -/
namespace Go.Proofs.YthijpmomcompaaaDoor
open Go Go.RowKit Go.Stab

def encF (e : {e : El // Five e.cs}) : Array Value := e.1.cs.toArray
theorem encF_ok : Sorted.Enc encF where
  size e := by unfold encF; rw [List.size_toArray]; exact e.2.len
  one e := by
    unfold encF
    rw [Array.all_eq_true_iff_forall_mem]
    exact fun v hv => five_cells e.2 v (by simpa using hv)
theorem rowF_cells {X : World} {b : Nat} {cur : Array Value} {t : TypeId} {fr : Nat × Nat} {D : List {e : El // Five e.cs}} (hh : X.heap[b]? = some (.cells cur t fr)) (hR : Sorted.RowE encF X b D) : cur.toList.take (D.length * 5) = cellsE (D.map (·.1)) := by
  have hf : ∀ e ∈ D.map (·.1), Five e.cs := fun e he => by obtain ⟨d, -, rfl⟩ := List.mem_map.1 he; exact d.2
  refine List.ext_getElem? (fun i => ?_)
  by_cases hi : i < D.length * 5
  · obtain ⟨q, r, hr, rfl⟩ : ∃ q r, r < 5 ∧ i = q * 5 + r := ⟨i / 5, i % 5, by omega, by omega⟩
    have hq : q < D.length := by omega
    have hd : D[q]? = some D[q] := List.getElem?_eq_getElem hq
    obtain ⟨u, hu⟩ : ∃ u, (D[q]).1.cs[r]? = some u := ⟨_, List.getElem?_eq_getElem (by rw [(D[q]).2.len]; exact hr)⟩
    have h1 := (hR q _ hd).1 r u (by unfold encF; simpa using hu)
    have h2 := cellsE_at (D.map (·.1)) hf q (D[q]).1 (by rw [List.getElem?_map, hd]; rfl) r u hu
    rw [h2, List.getElem?_take_of_lt hi, Array.getElem?_toList]
    simpa [World.cell?, hh] using h1
  · rw [List.getElem?_eq_none (by rw [List.length_take]; omega), List.getElem?_eq_none (by rw [cellsE_len hf, List.length_map]; omega)]
theorem cells_rowF {X : World} {b : Nat} {cur : Array Value} {t : TypeId} {D : List {e : El // Five e.cs}} (hh : X.heap[b]? = some (.cells cur t (0, 0))) (hc : cur.toList.take (D.length * 5) = cellsE (D.map (·.1))) : Sorted.RowE encF X b D := fun q x hx => by
  have hf : ∀ e ∈ D.map (·.1), Five e.cs := fun e he => by obtain ⟨d, -, rfl⟩ := List.mem_map.1 he; exact d.2
  have h2 : ∀ (j : Nat) u, (encF x).toList[j]? = some u → X.cell? ⟨b, q * 5 + j, none⟩ = some u := fun j u hj => by
    have := cellsE_at (D.map (·.1)) hf q x.1 (by rw [List.getElem?_map, hx]; rfl) j u (by unfold encF at hj; simpa using hj)
    have hl := (List.getElem?_eq_some_iff.1 this).1
    rw [cellsE_len hf, List.length_map] at hl
    rw [← hc, List.getElem?_take_of_lt hl, Array.getElem?_toList] at this
    simpa [World.cell?, hh] using this
  refine ⟨h2, fun j hj => ⟨?_, by simp [World.frozen?, hh]⟩⟩
  obtain ⟨u, hu⟩ : ∃ u, (encF x).toList[j]? = some u := ⟨_, List.getElem?_eq_getElem (by have := encF_ok.size x; simp; omega)⟩
  rw [h2 j u hu]
  rfl
/-- The row of a list that has an item. -/
theorem LAt.rowE {base : Nat} {w : World} {g n c : Nat} {es : List El} (h : LAt base w (.slice (some ⟨g, 0, none⟩) n c) es) : ∃ cur D, w.heap[g]? = some (.cells cur 31 (0, 0)) ∧ D.map (·.1) = es ∧ Sorted.RowE encF w g D ∧ es.length ≤ c ∧ c ≤ maxLen ∧ cur.size = c * 5 ∧ base ≤ g := by
  rcases h.row.2 with ⟨e, h0⟩ | ⟨g', cap, cur, e, hg, hh, hc, hm, hs, ht⟩
  · cases e
  · obtain ⟨rfl, -, rfl⟩ : g = g' ∧ n = es.length ∧ c = cap := by simpa using e
    have hD : (es.attachWith _ h.fives).map (·.1) = es := by simp
    exact ⟨cur, es.attachWith _ h.fives, hh, hD, cells_rowF hh (by rw [hD, List.length_attachWith]; exact ht), hc, hm, hs, hg⟩
theorem LAt.at {base : Nat} {w : World} {g n c : Nat} {es : List El} (h : LAt base w (.slice (some ⟨g, 0, none⟩) n c) es) {k : Nat} {e : El} (he : es[k]? = some e) : CellsAt w g (k * 5) e.cs ∧ ∀ j, w.frozen? ⟨g, j, none⟩ = false := by
  obtain ⟨cur, D, hh, hD, hR, -⟩ := h.rowE
  have hx : (D.map (·.1))[k]? = some e := by rw [hD]; exact he
  rw [List.getElem?_map] at hx
  obtain ⟨d, hd, rfl⟩ := Option.map_eq_some_iff.1 hx
  exact ⟨fun j u hj => (hR k d hd).1 j u (by unfold encF; simpa using hj), fun j => by simp [World.frozen?, hh]⟩
/-- An item is stored. -/
theorem LAt.set {base : Nat} {w : World} {g n c : Nat} {es : List El} (h : LAt base w (.slice (some ⟨g, 0, none⟩) n c) es) {k : Nat} (hk : k < es.length) {e' : El} (hf : Five e'.cs) (hs : ∀ W', Agree (fun j => base ≤ j ∧ (Value.slice (some ⟨g, 0, none⟩) n c).ownBlock ≠ some j) w W' → VRep W' e'.t e'.cs) :
    LAt base (w.setCells g (k * 5) e'.cs) (.slice (some ⟨g, 0, none⟩) n c) (es.set k e') ∧ Sorted.But g w (w.setCells g (k * 5) e'.cs) := by
  obtain ⟨cur, D, hh, hD, hR, hc, hm, hz, hg⟩ := h.rowE
  have hB : Sorted.But g w (w.setCells g (k * 5) e'.cs) := Sorted.setCells_but g _ _ _
  have hDl : D.length = es.length := by rw [← hD]; simp
  have hR' := hR.set encF_ok (j := k) (by omega) ⟨e', hf⟩
  unfold encF at hR'
  simp only [] at hR'
  obtain ⟨cur', hc', hs'⟩ := hB.shape _ _ _ hh
  have hm' : (D.set k ⟨e', hf⟩).map (·.1) = es.set k e' := by rw [List.map_set, hD]
  have hmem : ∀ e ∈ es.set k e', e ∈ es ∨ e = e' := fun e he => List.mem_or_eq_of_mem_set he
  have hv := h.slice
  obtain ⟨a9, c9, e9⟩ := hv
  have hn9 : n = es.length := by cases e9; rfl
  refine ⟨⟨⟨?_, .inr ⟨g, c, cur', by rw [List.length_set, hn9], hg, hc', by rw [List.length_set]; exact hc, hm, by rw [hs', hz], ?_⟩⟩, fun e he => ?_, fun e he W' hW => ?_⟩, hB⟩
  · rw [cellsE_len (fun e he => (hmem e he).elim (h.fives e) (fun e1 => by rw [e1]; exact hf))]
  · have := rowF_cells (D := D.set k ⟨e', hf⟩) hc' hR'
    rw [hm', List.length_set, hDl] at this
    rw [List.length_set]
    exact this
  · exact (hmem e he).elim (h.fives e) (fun e1 => by rw [e1]; exact hf)
  · have hA : Agree (fun j => base ≤ j ∧ (Value.slice (some ⟨g, 0, none⟩) n c).ownBlock ≠ some j) w W' := ⟨Nat.le_trans hB.size hW.1, fun p u hp hcl => hW.2 p u hp (by
      have hne : p.block ≠ g := fun e1 => hp.2 (by simp [Value.ownBlock, e1])
      exact (World.cell?_of_block (w := w) (a := p) (hB.block _ (lt_of_cell hcl) hne)).trans hcl)⟩
    rcases hmem e he with h1 | rfl
    · exact h.seen e h1 W' hA
    · exact hs W' hA
/-- Where an item is put: behind the first k. -/
theorem gap_step {S : List El} {k : Nat} {d x : El} (hx : S[k]? = some x) : (S.take (k + 1) ++ d :: S.drop (k + 1)).set (k + 1) x = S.take k ++ x :: S.drop k := by
  have hk := (List.getElem?_eq_some_iff.1 hx).1
  have ht : (S.take (k + 1)).length = k + 1 := by rw [List.length_take]; omega
  rw [List.set_append_right _ _ (by omega), ht, Nat.sub_self, List.set_cons_zero, List.take_add_one, hx]
  simp only [Option.toList_some, List.append_assoc, List.singleton_append]
  congr 2
  rw [List.drop_eq_getElem_cons hk]
  congr 1
  have := (List.getElem?_eq_some_iff.1 hx).2
  exact this.symm
theorem gap_at {S : List El} {k : Nat} {d x : El} (hx : S[k]? = some x) : (S.take (k + 1) ++ d :: S.drop (k + 1))[k]? = some x := by
  have hk := (List.getElem?_eq_some_iff.1 hx).1
  rw [List.getElem?_append_left (by rw [List.length_take]; omega), List.getElem?_take_of_lt (by omega), hx]
theorem gap_here {S : List El} {k : Nat} {d : El} (hk : k ≤ S.length) : (S.take k ++ d :: S.drop k)[k]? = some d := by
  rw [List.getElem?_append_right (by rw [List.length_take]; omega), List.length_take, Nat.min_eq_left hk, Nat.sub_self]
  rfl
theorem gap_len {S : List El} {k : Nat} {d : El} : (S.take k ++ d :: S.drop k).length = S.length + 1 := by simp; omega
theorem gap_put {S : List El} {k : Nat} {d e : El} (hk : k ≤ S.length) : (S.take k ++ d :: S.drop k).set k e = S.take k ++ e :: S.drop k := by
  rw [List.set_append_right _ _ (by rw [List.length_take]; omega), List.length_take, Nat.min_eq_left hk, Nat.sub_self, List.set_cons_zero]
theorem gap_sorted {S : List El} {k : Nat} {e : El} (hu : Up ltT (treesE S)) (hlow : ∀ x, 0 < k → S[k - 1]? = some x → ltT e.t x.t = false) (hhigh : ∀ x ∈ S.drop k, ltT e.t x.t = true) (hk : k ≤ S.length) : treesE (S.take k ++ e :: S.drop k) = mergeL ltT (treesE S) [e.t] := by
  have h := mergeL_last ltT e.t ((treesE S).take k) ((treesE S).drop k) ?_ ?_
  · rw [List.take_append_drop] at h
    rw [h]
    simp [treesE, List.map_take, List.map_drop]
  · intro t ht
    rcases Nat.eq_zero_or_pos k with h0 | h0
    · subst h0; simp at ht
    · obtain ⟨x, hx⟩ : ∃ x, S[k - 1]? = some x := ⟨S[k - 1], List.getElem?_eq_getElem (by omega)⟩
      have h1 := hlow x h0 hx
      have e1 : (treesE S).take k = (treesE S).take (k - 1) ++ [x.t] := by
        rw [show k = k - 1 + 1 by omega, List.take_add_one]
        have : (treesE S)[k - 1]? = some x.t := by unfold treesE; rw [List.getElem?_map, hx]; rfl
        rw [show k - 1 + 1 - 1 = k - 1 by omega, this]
        rfl
      have h2 := (Up.append (l := (treesE S).take k) (r := (treesE S).drop k) (by rw [List.take_append_drop]; exact hu)).1
      rw [e1] at h2 ht
      rcases List.mem_append.1 ht with h3 | h3
      · have := (Up.append h2).2.2 t h3 x.t (by simp)
        exact swoT.neg _ _ _ h1 this
      · rw [List.mem_singleton.1 h3]; exact h1
  · intro t ht
    rw [show (treesE S).drop k = treesE (S.drop k) by simp [treesE, List.map_drop]] at ht
    obtain ⟨x, hx, rfl⟩ := List.mem_map.1 ht
    exact hhigh x hx
set_option maxHeartbeats 8000000 in
set_option maxRecDepth 100000 in
theorem rsort_any (a : Option Addr) (c n : Nat) (its : List Tr) (w : World) (hn : its.length = n) (hnn : n * 80 ≤ 140737488351232) (hV : ListAt w a c its) (hS : SmallL its) :
    Calls Tryd.prog 11 #[.slice a n c] w fun e w' => ∃ v es, e = .returned v ∧ LAt w.heap.size w' v es ∧ treesE es = isort ltT its ∧ Below w.heap.size w w' := by
  obtain ⟨i0, hi, hz0, hz1, hz2⟩ := info_parts AV
  have n0 : (0 : Int) ≤ (n : Int) := by omega
  have n1 : (n : Int) ≤ 4611686018427387904 := by omega
  replace hn := hid_e hn
  replace hV := hid_e hV
  replace hS := hid_e hS
  go_enter Tryd.func11, Tryd.ntmps11
  go_wp2_with fail
  go_loopw [3, 4, 5] (fun ov iv _ wr => ∃ (q : Nat) (ao : Option Addr) (co : Nat) (es : List El), ov = .slice ao q co ∧ iv = .int .i64 q ∧ q ≤ n ∧ Hid (es.length = q) ∧ Hid (LAt w.heap.size wr (.slice ao q co) es) ∧ Hid (treesE es = isort ltT (its.take q)) ∧ Hid (Below w.heap.size w wr)) (fun _ iv _ _ => n - (intOf iv).toNat)
  case atStart => exact ⟨0, none, 0, [], rfl, rfl, Nat.zero_le _, rfl, LAt.nil _ _, rfl, Below.refl _ _⟩
  case round =>
    obtain ⟨q, ao, co, es, rfl, rfl, hq, hel, hL, ht, hb⟩ := hrel
    by_cases hlt : q < n
    · have q1 : (q : Int) < (n : Int) := by omega
      have q0 : (0 : Int) ≤ (q : Int) := by omega
      obtain ⟨u, hu⟩ : ∃ u, Hid (its[q]? = some u) := ⟨its[q]'(by rw [hn.out]; omega), List.getElem?_eq_getElem (by rw [hn.out]; omega)⟩
      obtain ⟨b, o, k1, x1, s1, an1, ln1, cn1, ai1, li1, ci1, ea, hlb, hc1, hv1⟩ := hV.out.item hu.out
      subst ea
      have call := hid_e (fun W (hW : Below w.heap.size w W) => copy_any u _ W (VRep.keep hW _ _ hv1) (SmallL.at hS.out hu.out))
      have hu1 : Hid (VRep w u (five k1 x1 s1 (.slice an1 ln1 cn1) (.slice ai1 li1 ci1))) := hv1
      obtain ⟨v0, v1, v2, v3, v4⟩ := cells5 hc1
      have x0 := stay hb.out v0
      have x1' := stay hb.out v1
      have x2 := stay hb.out v2
      have x3 := stay hb.out v3
      have x4 := stay hb.out v4
      have hsz := hid_e hb.out.size
      clear hc1 hv1 hlb
      go_wp2_with fail
      refine (call.out wr hb.out).mono ?_
      rintro e w2 ⟨k3, x3', s3, an3, ln3, cn3, ai3, li3, ci3, rfl, hu3, hb2⟩
      replace hu3 := hid_e hu3
      replace hb2 := hid_e hb2
      have hrow2 : Hid ((w2.alloc (.cells #[.int .i64 k3, .int .i64 x3', .string s3, .slice an3 ln3 cn3, .slice ai3 li3 ci3] 31)).ownsRow w.heap.size 31 5 (.slice ao q co) q (cellsE es)) := by
        have h := hL.out.row
        rw [hel.out] at h
        exact (ownsRow_below h hb2.out).alloc _
      have hbb : Hid (w.heap.size ≤ (w2.alloc (.cells #[.int .i64 k3, .int .i64 x3', .string s3, .slice an3 ln3 cn3, .slice ai3 li3 ci3] 31)).heap.size) := by rw [World.size_alloc]; have := hsz.out; have := hb2.out.size; show _ ≤ _; omega
      clear x0 x1' x2 x3 x4
      go_wp2_with (at_builtin; refine wpList_append_lies _ rfl _ _ 22 rfl w.heap.size 31 i0 _ 5 80 Tryd.underlying22 hi hz0 hz1 hz2 rfl (by decide) _ q (cellsE es) rfl hrow2.out _ 1 1 [.int .i64 k3, .int .i64 x3', .string s3, .slice an3 ln3 cn3, .slice ai3 li3 ci3] rfl rfl (World.news_of_block (heap_alloc_new w2 _)) (five_one _ _ _ _ _ _ _ _ _) (by decide) (by unfold maxLen; omega) (by omega) hbb.out _ rfl ?_; intro g4 cap4 w3 hown3 hgrow3 hat3 hlt3; replace hown3 := hid_e hown3; replace hgrow3 := hid_e hgrow3; replace hat3 := hid_e hat3; clear hlt3)
      have hL' : Hid (LAt w.heap.size w3 (.slice (some ⟨g4, 0, none⟩) (q + 1) cap4) (es.take q ++ ⟨five k3 x3' s3 (.slice an3 ln3 cn3) (.slice ai3 li3 ci3), u⟩ :: es.drop q)) := by
        have hL1 := hL.out
        have e1 := hel.out
        subst e1
        rw [List.take_length, List.drop_length]
        exact hL1.app ⟨_, _, _, _, _, _, _, _, _, rfl⟩ hsz.out hu3.out hb2.out hgrow3.out hat3.out hown3.out
      have hb3 : Hid (Below w.heap.size w w3) := by
        have h2 : Below w.heap.size w (w2.alloc (.cells #[.int .i64 k3, .int .i64 x3', .string s3, .slice an3 ln3 cn3, .slice ai3 li3 ci3] 31)) := (hb.out.trans (hb2.out.mono hsz.out)).alloc (by have := hsz.out; have := hb2.out.size; omega) _
        exact h2.trans (grown_below hgrow3.out hbb.out (fun g hg => (ownsRow_ge hL.out.row hg).1))
      have hup : Hid (Up ltT (treesE es)) := by rw [ht.out]; exact isort_up swoT _
      have hg4 : Hid (w.heap.size ≤ g4) := (ownsRow_ge hL'.out.row (g := g4) rfl).1
      have hsmE : Hid (∀ x ∈ es, SmallT x.t) := by
        intro x hx
        have h1 : x.t ∈ treesE es := List.mem_map_of_mem hx
        rw [ht.out, (isort_perm ltT _).mem_iff] at h1
        obtain ⟨j, hj⟩ := List.mem_iff_getElem?.1 (List.mem_of_mem_take h1)
        exact SmallL.at hS.out hj
      clear hrow2 hbb hown3 hgrow3 hat3 hb2 hu3 hsz hL hb
      go_loopw [5] (fun kv wr => ∃ (k : Nat) (d : El), kv = .int .i64 k ∧ k ≤ q ∧ Hid (LAt w.heap.size wr (.slice (some ⟨g4, 0, none⟩) (q + 1) cap4) (es.take k ++ d :: es.drop k)) ∧ Hid (∀ x ∈ es.drop k, ltT u x.t = true) ∧ Hid (Below w.heap.size w wr)) (fun kv _ => (intOf kv).toNat)
      case atStart => exact ⟨q, _, rfl, Nat.le_refl _, hL', (by rw [List.drop_eq_nil_of_le (by rw [hel.out]; exact Nat.le_refl _)]; intro x hx; cases hx), hb3⟩
      case round =>
        clear hL' hb3
        obtain ⟨k, d, rfl, hkq, hL, hhi, hb⟩ := hrel
        have k0 : (0 : Int) ≤ (k : Int) := by omega
        have k1' : (k : Int) ≤ (q : Int) := by omega
        have k2 : (k : Int) < (q : Int) + 1 := by omega
        -- how it ends
        have hend : Hid (∀ X es2, LAt w.heap.size X (.slice (some ⟨g4, 0, none⟩) (q + 1) cap4) es2 → es2 = es.take k ++ d :: es.drop k → Below w.heap.size w X → (∀ x, 0 < k → es[k - 1]? = some x → ltT u x.t = false) → ∀ Y ks xs ss a1 l1 c1 a2 l2 c2, Below X.heap.size X Y → Seen Y (fun j => X.heap.size ≤ j) u (five ks xs ss (.slice a1 l1 c1) (.slice a2 l2 c2)) → LAt w.heap.size (Y.setCells g4 (k * 5) (five ks xs ss (.slice a1 l1 c1) (.slice a2 l2 c2))) (.slice (some ⟨g4, 0, none⟩) (q + 1) cap4) (es.take k ++ ⟨five ks xs ss (.slice a1 l1 c1) (.slice a2 l2 c2), u⟩ :: es.drop k) ∧ treesE (es.take k ++ ⟨five ks xs ss (.slice a1 l1 c1) (.slice a2 l2 c2), u⟩ :: es.drop k) = isort ltT (its.take (q + 1)) ∧ Below w.heap.size w (Y.setCells g4 (k * 5) (five ks xs ss (.slice a1 l1 c1) (.slice a2 l2 c2)))) := by
          intro X es2 hX e2 hbX hlow Y ks xs ss a1 l1 c1 a2 l2 c2 hbY hsY
          subst e2
          have hXY := hX.keep hbY
          have hgl : g4 < X.heap.size := (ownsRow_ge hX.row (g := g4) rfl).2
          obtain ⟨h1, h2⟩ := hXY.set (k := k) (by rw [gap_len, hel.out]; omega) (e' := ⟨five ks xs ss (.slice a1 l1 c1) (.slice a2 l2 c2), u⟩) ⟨_, _, _, _, _, _, _, _, _, rfl⟩ (fun W' hW => hsY W' ⟨hW.1, fun p v hp hc => hW.2 p v ⟨Nat.le_trans hbX.size hp, fun e => by have h9 : g4 = p.block := (by simpa [Value.ownBlock] using e); omega⟩ hc⟩)
          rw [gap_put (by rw [hel.out]; exact hkq)] at h1
          refine ⟨h1, ?_, ?_⟩
          · rw [gap_sorted (e := ⟨five ks xs ss (.slice a1 l1 c1) (.slice a2 l2 c2), u⟩) hup.out hlow hhi.out (by rw [hel.out]; exact hkq), ht.out, List.take_add_one, hu.out]
            exact (isort_snoc ltT _ u).symm
          · exact (hbX.trans (hbY.mono hbX.size)).trans ⟨h2.os, h2.tape, h2.output, h2.size, fun j hj => h2.block j (by have := hbX.size; have := hbY.size; omega) (by have := hg4.out; omega)⟩
        have y0 := stay hb.out v0
        have y1 := stay hb.out v1
        have y2 := stay hb.out v2
        have y3 := stay hb.out v3
        have y4 := stay hb.out v4
        by_cases hk : k = 0
        · subst hk
          have kz : ¬ (0 : Int) < ((0 : Nat) : Int) := by simp
          go_wp2_with fail
          refine wp_region_quiet (C := fun w' => Below wr.heap.size wr w') (by kernel_rfl) (by kernel_rfl) (below_drewN (Below.refl _ _) 1) ?_
          with_reducible refine wpQuiet_step (fun K hK => ?_)
          refine ⟨.int .i64 ((0 : Nat) : Int), fun w' hw' => ?_, ?_⟩
          · first | (go_simp; done) | (go_simp; decide) | (go_simp; omega)
          with_reducible refine hK _ ?_
          clear hK K
          simp only [Act.put, List.setIfInBounds_toArray, List.set_cons_zero, List.set_cons_succ]
          with_reducible refine wpQuiet_step (fun K hK => ?_)
          refine ⟨.bool false, fun w' hw' => ?_, ?_⟩
          · first | (go_simp; done) | (go_simp; decide) | (go_simp; omega)
          with_reducible refine hK _ ?_
          clear hK K
          simp only [Act.put, List.setIfInBounds_toArray, List.set_cons_zero, List.set_cons_succ]
          with_reducible refine wpQuiet_step (fun K hK => ?_)
          refine ⟨.bool false, fun w' hw' => ?_, ?_⟩
          · first | (go_simp; done) | (go_simp; decide) | (go_simp; omega)
          with_reducible refine hK _ ?_
          clear hK K
          simp only [Act.put, List.setIfInBounds_toArray, List.set_cons_zero, List.set_cons_succ]
          with_reducible refine wpQuiet_step (fun K hK => ?_)
          refine Sorted.k_quiet_else (by kernel_rfl) ?_
          with_reducible refine hK _ ?_
          clear hK K
          simp only [Act.put, List.setIfInBounds_toArray, List.set_cons_zero, List.set_cons_succ]
          with_reducible refine wpQuiet_step (fun K hK => ?_)
          refine Sorted.k_quiet_else (by kernel_rfl) ?_
          with_reducible refine hK _ ?_
          clear hK K
          simp only [Act.put, List.setIfInBounds_toArray, List.set_cons_zero, List.set_cons_succ]
          with_reducible refine wpQuiet_step (fun K hK => ?_)
          refine Sorted.k_quiet_else (by kernel_rfl) ?_
          with_reducible refine hK _ ?_
          clear hK K
          simp only [Act.put, List.setIfInBounds_toArray, List.set_cons_zero, List.set_cons_succ]
          with_reducible refine wpQuiet_step (fun K hK => ?_)
          refine Sorted.k_quiet_else (by kernel_rfl) ?_
          with_reducible refine hK _ ?_
          clear hK K
          simp only [Act.put, List.setIfInBounds_toArray, List.set_cons_zero, List.set_cons_succ]
          with_reducible refine wpQuiet_step (fun K hK => ?_)
          refine Sorted.k_quiet_else (by kernel_rfl) ?_
          with_reducible refine hK _ ?_
          clear hK K
          simp only [Act.put, List.setIfInBounds_toArray, List.set_cons_zero, List.set_cons_succ]
          with_reducible refine wpQuiet_step (fun K hK => ?_)
          refine Sorted.k_quiet_else (by kernel_rfl) ?_
          with_reducible refine hK _ ?_
          clear hK K
          simp only [Act.put, List.setIfInBounds_toArray, List.set_cons_zero, List.set_cons_succ]
          with_reducible refine wpQuiet_step (fun K hK => ?_)
          refine Sorted.k_quiet_else (by kernel_rfl) ?_
          with_reducible refine hK _ ?_
          clear hK K
          simp only [Act.put, List.setIfInBounds_toArray, List.set_cons_zero, List.set_cons_succ]
          with_reducible refine wpQuiet_step (fun K hK => ?_)
          refine Sorted.k_quiet_else (by kernel_rfl) ?_
          with_reducible refine hK _ ?_
          clear hK K
          simp only [Act.put, List.setIfInBounds_toArray, List.set_cons_zero, List.set_cons_succ]
          with_reducible refine wpQuiet_step (fun K hK => ?_)
          refine Sorted.k_quiet_else (by kernel_rfl) ?_
          with_reducible refine hK _ ?_
          clear hK K
          simp only [Act.put, List.setIfInBounds_toArray, List.set_cons_zero, List.set_cons_succ]
          with_reducible refine wpQuiet_step (fun K hK => ?_)
          refine Sorted.k_quiet_else (by kernel_rfl) ?_
          with_reducible refine hK _ ?_
          clear hK K
          simp only [Act.put, List.setIfInBounds_toArray, List.set_cons_zero, List.set_cons_succ]
          with_reducible refine wpQuiet_step (fun K hK => ?_)
          refine Sorted.k_quiet_else (by kernel_rfl) ?_
          with_reducible refine hK _ ?_
          clear hK K
          simp only [Act.put, List.setIfInBounds_toArray, List.set_cons_zero, List.set_cons_succ]
          with_reducible refine wpQuiet_step (fun K hK => ?_)
          refine ⟨.bool false, fun w' hw' => ?_, ?_⟩
          · first | (go_simp; done) | (go_simp; decide) | (go_simp; omega)
          with_reducible refine hK _ ?_
          clear hK K
          simp only [Act.put, List.setIfInBounds_toArray, List.set_cons_zero, List.set_cons_succ]
          refine wpQuiet_nil ?_
          intro X1 hX1
          have hLX := hid_e (hL.out.keep hX1)
          have hbX := hid_e (hb.out.trans (hX1.mono hb.out.size))
          have z0 := stay hX1 y0
          have z1 := stay hX1 y1
          have z2 := stay hX1 y2
          have z3 := stay hX1 y3
          have z4 := stay hX1 y4
          have hen := hid_e (hend.out X1 _ hLX.out rfl hbX.out (fun x h0 _ => absurd h0 (by omega)))
          clear hend hX1 hL hb y0 y1 y2 y3 y4 hhi 
          go_wp2_with fail
          refine (call.out X1 hbX.out).mono ?_
          rintro e Y ⟨k5, x5, s5, an5, ln5, cn5, ai5, li5, ci5, rfl, hu5, hb5⟩
          have hez := hid_e (hen.out Y k5 x5 s5 an5 ln5 cn5 ai5 li5 ci5 hb5 hu5)
          obtain ⟨dc0, dfz⟩ := (hLX.out.keep hb5).at (k := 0) (gap_here (by rw [hel.out]; exact hkq))
          obtain ⟨dk, dx, ds, da1, dl1, dc1, da2, dl2, dc2, ed⟩ := (hLX.out.keep hb5).fives d (by simp)
          rw [ed] at dc0
          obtain ⟨f0, f1, f2, f3, f4⟩ := cells5 dc0
          have g0 := dfz (0 * 5)
          have g1 := dfz (0 * 5 + 1)
          have g2 := dfz (0 * 5 + 2)
          have g3 := dfz (0 * 5 + 3)
          have g4' := dfz (0 * 5 + 4)
          clear dfz dc0 hu5 hb5 hLX hen z0 z1 z2 z3 z4 hbX
          go_wp2_with fail
          exact ⟨⟨q + 1, _, _, _, rfl, by go_num, by omega, by show _ = _; rw [gap_len, hel.out], hez.out.1, hez.out.2.1, hez.out.2.2⟩, by simp [intOf]; omega⟩
        · obtain ⟨p, hp⟩ : ∃ p, Hid (p + 1 = k) := ⟨k - 1, by show k - 1 + 1 = k; omega⟩
          have kp : (0 : Int) < (k : Int) := by omega
          have p0 : (0 : Int) ≤ (p : Int) := by omega
          have p1 : (p : Int) < (q : Int) + 1 := by have := hp.out; omega
          have ep : IntKind.i64.wrap ((k : Int) - 1) = (p : Int) := by rw [Sorted.wrap_in (by omega) (by omega)]; have := hp.out; omega
          obtain ⟨x, hx⟩ : ∃ x, Hid (es[p]? = some x) := ⟨es[p]'(by have := hp.out; rw [hel.out]; omega), List.getElem?_eq_getElem (by have := hp.out; rw [hel.out]; omega)⟩
          have hxat : Hid ((es.take k ++ d :: es.drop k)[p]? = some x) := by show _ = _; rw [← hp.out]; exact gap_at hx.out
          obtain ⟨k6, x6, s6, an6, ln6, cn6, ai6, li6, ci6, ex⟩ := hL.out.fives x (List.mem_of_getElem? hxat.out)
          have hcx := (hL.out.at hxat.out).1
          rw [ex] at hcx
          obtain ⟨m0, m1, m2, m3, m4⟩ := cells5 hcx
          have hvx : Hid (VRep wr x.t (five k6 x6 s6 (.slice an6 ln6 cn6) (.slice ai6 li6 ci6))) := by rw [← ex]; exact hL.out.seen x (List.mem_of_getElem? hxat.out) wr ⟨Nat.le_refl _, fun _ _ _ h => h⟩
          have cmp := hid_e (fun W (hW : Below wr.heap.size wr W) => rcompare_any x.t u _ _ W (VRep.keep hW _ _ hvx.out) (VRep.keep (hb.out.trans (hW.mono hb.out.size)) _ _ hu1.out) (hsmE.out x (List.mem_of_getElem? hx.out)) (SmallL.at hS.out hu.out))
          obtain ⟨C, hC⟩ : ∃ C, Hid (cmpT x.t u = C) := ⟨_, rfl⟩
          simp only [hC.out] at cmp
          have hCl : Hid (ltT u x.t = decide (0 < C)) := by
            show decide (cmpT u x.t < 0) = decide (0 < C)
            rw [← hC.out, cmpT_anti u x.t]
            congr 1
            simp
          clear hcx
          go_wp2_with fail
          refine wp_region_quiet (C := fun w' => Below wr.heap.size wr w') (by kernel_rfl) (by kernel_rfl) (below_drewN (Below.refl _ _) 1) ?_
          with_reducible refine wpQuiet_step (fun K hK => ?_)
          refine ⟨.int .i64 k, fun w' hw' => ?_, ?_⟩
          · first | (go_simp; done) | (go_simp; decide) | (go_simp; omega)
          with_reducible refine hK _ ?_
          clear hK K
          simp only [Act.put, List.setIfInBounds_toArray, List.set_cons_zero, List.set_cons_succ]
          with_reducible refine wpQuiet_step (fun K hK => ?_)
          refine ⟨.bool true, fun w' hw' => ?_, ?_⟩
          · first | (go_simp; done) | (go_simp; decide) | (go_simp; omega)
          with_reducible refine hK _ ?_
          clear hK K
          simp only [Act.put, List.setIfInBounds_toArray, List.set_cons_zero, List.set_cons_succ]
          with_reducible refine wpQuiet_step (fun K hK => ?_)
          refine ⟨.bool true, fun w' hw' => ?_, ?_⟩
          · first | (go_simp; done) | (go_simp; decide) | (go_simp; omega)
          with_reducible refine hK _ ?_
          clear hK K
          simp only [Act.put, List.setIfInBounds_toArray, List.set_cons_zero, List.set_cons_succ]
          with_reducible refine wpQuiet_step (fun K hK => ?_)
          refine Sorted.k_quiet_if (by kernel_rfl) ?_
          refine ⟨.slice (some ⟨g4, 0, none⟩) (q + 1) cap4, fun w' hw' => ?_, ?_⟩
          · first | (go_simp; done) | (go_simp; decide) | (go_simp; omega)
          with_reducible refine hK _ ?_
          clear hK K
          simp only [Act.put, List.setIfInBounds_toArray, List.set_cons_zero, List.set_cons_succ]
          with_reducible refine wpQuiet_step (fun K hK => ?_)
          refine Sorted.k_quiet_if (by kernel_rfl) ?_
          refine ⟨.int .i64 k, fun w' hw' => ?_, ?_⟩
          · first | (go_simp; done) | (go_simp; decide) | (go_simp; omega)
          with_reducible refine hK _ ?_
          clear hK K
          simp only [Act.put, List.setIfInBounds_toArray, List.set_cons_zero, List.set_cons_succ]
          with_reducible refine wpQuiet_step (fun K hK => ?_)
          refine Sorted.k_quiet_if (by kernel_rfl) ?_
          refine ⟨.int .i64 p, fun w' hw' => ?_, ?_⟩
          · first | (go_simp; done) | (go_simp; decide) | (go_simp; omega)
          with_reducible refine hK _ ?_
          clear hK K
          simp only [Act.put, List.setIfInBounds_toArray, List.set_cons_zero, List.set_cons_succ]
          with_reducible refine wpQuiet_step (fun K hK => ?_)
          refine Sorted.k_quiet_if (by kernel_rfl) ?_
          refine ⟨.pointer (some ⟨g4, p * 5, none⟩), fun w' hw' => ?_, ?_⟩
          · first | (go_simp; done) | (go_simp; decide) | (go_simp; omega)
          with_reducible refine hK _ ?_
          clear hK K
          simp only [Act.put, List.setIfInBounds_toArray, List.set_cons_zero, List.set_cons_succ]
          with_reducible refine wpQuiet_step (fun K hK => ?_)
          refine Sorted.k_quiet_if (by kernel_rfl) ?_
          refine ⟨.agg #[.int .i64 k6, .int .i64 x6, .string s6, .slice an6 ln6 cn6, .slice ai6 li6 ci6], fun w' hw' => ?_, ?_⟩
          · have t0 := stay hw' m0
            have t1 := stay hw' m1
            have t2 := stay hw' m2
            have t3 := stay hw' m3
            have t4 := stay hw' m4
            go_simp
          with_reducible refine hK _ ?_
          clear hK K
          simp only [Act.put, List.setIfInBounds_toArray, List.set_cons_zero, List.set_cons_succ]
          with_reducible refine wpQuiet_step (fun K hK => ?_)
          refine Sorted.k_quiet_if (by kernel_rfl) ?_
          refine ⟨.slice (some ⟨b, o, none⟩) n c, fun w' hw' => ?_, ?_⟩
          · first | (go_simp; done) | (go_simp; decide) | (go_simp; omega)
          with_reducible refine hK _ ?_
          clear hK K
          simp only [Act.put, List.setIfInBounds_toArray, List.set_cons_zero, List.set_cons_succ]
          with_reducible refine wpQuiet_step (fun K hK => ?_)
          refine Sorted.k_quiet_if (by kernel_rfl) ?_
          refine ⟨.int .i64 q, fun w' hw' => ?_, ?_⟩
          · first | (go_simp; done) | (go_simp; decide) | (go_simp; omega)
          with_reducible refine hK _ ?_
          clear hK K
          simp only [Act.put, List.setIfInBounds_toArray, List.set_cons_zero, List.set_cons_succ]
          with_reducible refine wpQuiet_step (fun K hK => ?_)
          refine Sorted.k_quiet_if (by kernel_rfl) ?_
          refine ⟨.pointer (some ⟨b, o + q * 5, none⟩), fun w' hw' => ?_, ?_⟩
          · first | (go_simp; done) | (go_simp; decide) | (go_simp; omega)
          with_reducible refine hK _ ?_
          clear hK K
          simp only [Act.put, List.setIfInBounds_toArray, List.set_cons_zero, List.set_cons_succ]
          with_reducible refine wpQuiet_step (fun K hK => ?_)
          refine Sorted.k_quiet_if (by kernel_rfl) ?_
          refine ⟨.agg #[.int .i64 k1, .int .i64 x1, .string s1, .slice an1 ln1 cn1, .slice ai1 li1 ci1], fun w' hw' => ?_, ?_⟩
          · have t0 := stay hw' y0
            have t1 := stay hw' y1
            have t2 := stay hw' y2
            have t3 := stay hw' y3
            have t4 := stay hw' y4
            go_simp
          with_reducible refine hK _ ?_
          clear hK K
          simp only [Act.put, List.setIfInBounds_toArray, List.set_cons_zero, List.set_cons_succ]
          with_reducible refine wpQuiet_step (fun K hK => ?_)
          refine Sorted.k_quiet_if (by kernel_rfl) ?_
          refine ⟨.int .i64 C, fun w' hw' => ?_, ?_⟩
          · go_simp
            refine (cmp.out w' hw').mono ?_
            rintro e w'' ⟨rfl, hb'⟩
            exact ⟨rfl, hw'.trans (hb'.mono hw'.size)⟩
          with_reducible refine hK _ ?_
          clear hK K
          simp only [Act.put, List.setIfInBounds_toArray, List.set_cons_zero, List.set_cons_succ]
          by_cases hz : 0 < C
          · have hly : Hid (ltT u x.t = true) := by rw [hCl.out]; exact decide_eq_true hz
            with_reducible refine wpQuiet_step (fun K hK => ?_)
            refine Sorted.k_quiet_if (by kernel_rfl) ?_
            refine ⟨.bool true, fun w' hw' => ?_, ?_⟩
            · first | (go_simp; done) | (go_simp; decide) | (go_simp; omega)
            with_reducible refine hK _ ?_
            clear hK K
            simp only [Act.put, List.setIfInBounds_toArray, List.set_cons_zero, List.set_cons_succ]
            with_reducible refine wpQuiet_step (fun K hK => ?_)
            refine ⟨.bool true, fun w' hw' => ?_, ?_⟩
            · first | (go_simp; done) | (go_simp; decide) | (go_simp; omega)
            with_reducible refine hK _ ?_
            clear hK K
            simp only [Act.put, List.setIfInBounds_toArray, List.set_cons_zero, List.set_cons_succ]
            refine wpQuiet_nil ?_
            intro X1 hX1
            have hLX := hid_e (hL.out.keep hX1)
            have hbX := hid_e (hb.out.trans (hX1.mono hb.out.size))
            obtain ⟨dc0, dfz⟩ := hLX.out.at (k := k) (gap_here (by rw [hel.out]; exact hkq))
            obtain ⟨dk, dx, ds, da1, dl1, dc1, da2, dl2, dc2, ed⟩ := hLX.out.fives d (by simp)
            rw [ed] at dc0
            obtain ⟨f0, f1, f2, f3, f4⟩ := cells5 dc0
            have g0 := dfz (k * 5)
            have g1 := dfz (k * 5 + 1)
            have g2 := dfz (k * 5 + 2)
            have g3 := dfz (k * 5 + 3)
            have g4' := dfz (k * 5 + 4)
            have z0 := stay hX1 m0
            have z1 := stay hX1 m1
            have z2 := stay hX1 m2
            have z3 := stay hX1 m3
            have z4 := stay hX1 m4
            have hst : Hid (LAt w.heap.size (X1.setCells g4 (k * 5) (five k6 x6 s6 (.slice an6 ln6 cn6) (.slice ai6 li6 ci6))) (.slice (some ⟨g4, 0, none⟩) (q + 1) cap4) (es.take p ++ x :: es.drop p) ∧ Below w.heap.size w (X1.setCells g4 (k * 5) (five k6 x6 s6 (.slice an6 ln6 cn6) (.slice ai6 li6 ci6)))) := by
              obtain ⟨h1, h2⟩ := hLX.out.set (k := k) (by rw [gap_len, hel.out]; omega) (e' := x) (hLX.out.fives x (List.mem_of_getElem? hxat.out)) (hLX.out.seen x (List.mem_of_getElem? hxat.out))
              have hpk := hp.out
              subst hpk
              rw [gap_step hx.out, ex] at h1
              rw [ex] at h2
              exact ⟨h1, hbX.out.trans ⟨h2.os, h2.tape, h2.output, h2.size, fun j hj => h2.block j (by have := hbX.out.size; omega) (by have := hg4.out; omega)⟩⟩
            have hhi' : Hid (∀ y ∈ es.drop p, ltT u y.t = true) := by
              intro y hy
              have hpl := (List.getElem?_eq_some_iff.1 hx.out).1
              rw [List.drop_eq_getElem_cons hpl, (List.getElem?_eq_some_iff.1 hx.out).2, hp.out] at hy
              rcases List.mem_cons.1 hy with rfl | hy
              · exact hly.out
              · exact hhi.out y hy
            have hkm : Hid (p < k ∧ p ≤ q) := by show _ ∧ _; have := hp.out; omega
            clear hend hX1 hL hb hhi y0 y1 y2 y3 y4 m0 m1 m2 m3 m4 hvx cmp hC hCl hLX hbX dc0 dfz hxat call hly hz hk
            go_wp2_with fail
            exact ⟨⟨p, x, rfl, hkm.out.2, hst.out.1, hhi', hst.out.2⟩, by simp only [intOf]; have := hkm.out; omega⟩
          · have hly : Hid (ltT u x.t = false) := by rw [hCl.out]; exact decide_eq_false hz
            with_reducible refine wpQuiet_step (fun K hK => ?_)
            refine Sorted.k_quiet_if (by kernel_rfl) ?_
            refine ⟨.bool false, fun w' hw' => ?_, ?_⟩
            · first | (go_simp; done) | (go_simp; decide) | (go_simp; omega)
            with_reducible refine hK _ ?_
            clear hK K
            simp only [Act.put, List.setIfInBounds_toArray, List.set_cons_zero, List.set_cons_succ]
            with_reducible refine wpQuiet_step (fun K hK => ?_)
            refine ⟨.bool false, fun w' hw' => ?_, ?_⟩
            · first | (go_simp; done) | (go_simp; decide) | (go_simp; omega)
            with_reducible refine hK _ ?_
            clear hK K
            simp only [Act.put, List.setIfInBounds_toArray, List.set_cons_zero, List.set_cons_succ]
            refine wpQuiet_nil ?_
            intro X1 hX1
            have hLX := hid_e (hL.out.keep hX1)
            have hbX := hid_e (hb.out.trans (hX1.mono hb.out.size))
            have z0 := stay hX1 y0
            have z1 := stay hX1 y1
            have z2 := stay hX1 y2
            have z3 := stay hX1 y3
            have z4 := stay hX1 y4
            have hen := hid_e (hend.out X1 _ hLX.out rfl hbX.out (fun x' _ hx' => by rw [show k - 1 = p by have := hp.out; omega, hx.out] at hx'; cases hx'; exact hly.out))
            clear hend hX1 hL hb y0 y1 y2 y3 y4 hhi m0 m1 m2 m3 m4 hvx cmp hC hCl hxat hly hz hk
            go_wp2_with fail
            refine (call.out X1 hbX.out).mono ?_
            rintro e Y ⟨k5, x5, s5, an5, ln5, cn5, ai5, li5, ci5, rfl, hu5, hb5⟩
            have hez := hid_e (hen.out Y k5 x5 s5 an5 ln5 cn5 ai5 li5 ci5 hb5 hu5)
            obtain ⟨dc0, dfz⟩ := (hLX.out.keep hb5).at (k := k) (gap_here (by rw [hel.out]; exact hkq))
            obtain ⟨dk, dx, ds, da1, dl1, dc1, da2, dl2, dc2, ed⟩ := (hLX.out.keep hb5).fives d (by simp)
            rw [ed] at dc0
            obtain ⟨f0, f1, f2, f3, f4⟩ := cells5 dc0
            have g0 := dfz (k * 5)
            have g1 := dfz (k * 5 + 1)
            have g2 := dfz (k * 5 + 2)
            have g3 := dfz (k * 5 + 3)
            have g4' := dfz (k * 5 + 4)
            clear dfz dc0 hu5 hb5 hLX hen z0 z1 z2 z3 z4 hbX
            go_wp2_with fail
            exact ⟨⟨q + 1, _, _, _, rfl, by go_num, by omega, by show _ = _; rw [gap_len, hel.out], hez.out.1, hez.out.2.1, hez.out.2.2⟩, by simp [intOf]; omega⟩
    · obtain rfl : q = n := by omega
      have q1 : ¬ (q : Int) < (q : Int) := by omega
      rw [List.take_of_length_le (by rw [hn.out]; omega)] at ht
      go_wp2_with fail
      go_ret
      exact ⟨_, rfl, es, hL.out, ht.out, hb.out⟩
end Go.Proofs.YthijpmomcompaaaDoor
