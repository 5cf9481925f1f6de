import Derived.Test.YtpdcinicnekeoaaWG
/-! watch: of, fitting. -/
namespace Go.Proofs.Ytpdcinicnekeoaa
open Go Go.RowKit Go.Watch
/-- Pointers, some of those that were there. -/
structure Ofs (S : Nat → Prop) (w0 w : World) (a : Option Addr) (n cap : Nat) (l : List Chg) : Prop where
  bel : Below w0.heap.size w0 w
  row : ∃ gs : List Nat, gs.length = n ∧ l.length = n ∧ Rw w w0.heap.size 1 a n cap (gs.map ptrV) ∧ ∀ (j g : Nat) c, gs[j]? = some g → l[j]? = some c → S g ∧ g < w0.heap.size ∧ ChgCell w0 g 0 c
theorem Ofs.ptrs {S : Nat → Prop} {w0 w : World} {a : Option Addr} {n cap : Nat} {l : List Chg} (h : Ofs S w0 w a n cap l) : PtrsAt (NewS S w0.heap.size) w a l := fun j c hc => by
  obtain ⟨gs, h1, h2, h3, h4⟩ := h.row
  have hj := (List.getElem?_eq_some_iff.1 hc).1
  have hg := List.getElem?_eq_getElem (l := gs) (i := j) (by omega)
  obtain ⟨h5, h6, h7⟩ := h4 j _ c hg hc
  obtain ⟨b, o, e1, e2, e3⟩ := h3.cell (j := j) (u := ptrV (gs[j]'(by omega))) (by rw [List.getElem?_map, hg]; rfl)
  exact ⟨b, o, _, e1, .inr e2, .inl ⟨h5, h6⟩, e3, h7.keep (h.bel.block _ h6)⟩
theorem Ofs.blk {S : Nat → Prop} {w0 w : World} {a : Option Addr} {n cap : Nat} {l : List Chg} (h : Ofs S w0 w a n cap l) (h0 : 0 < cap) : ∀ b, blkOf a b → w0.heap.size ≤ b := fun b hb => by
  obtain ⟨gs, h1, h2, h3, h4⟩ := h.row
  rcases h3.pt with h5 | ⟨b', o, e, h6, -⟩
  · omega
  · obtain ⟨o2, s2, e2⟩ := hb
    rw [e] at e2
    cases e2
    exact h6
structure OfPost (S : Nat → Prop) (w : World) (l : List Chg) (e : Ending) (w' : World) : Prop where
  bel : Below w.heap.size w w'
  row : ∃ a cap, e = .returned (.slice a l.length cap) ∧ l.length ≤ cap ∧ cap ≤ 9223372036854775807 ∧ PtrsAt (NewS S w.heap.size) w' a l
theorem pick_empty (l : List Chg) : l.filter (pickB ByteArray.empty) = l := by
  rw [List.filter_eq_self]
  intro c _
  simp [pickB]
set_option maxHeartbeats 1000000 in
theorem of_all {S : Nat → Prop} {a : Option Addr} {l : List Chg} {cap : Nat} {w : World} (h : PtrsAt S w a l) (hc : l.length ≤ cap) (hm : cap ≤ 9223372036854775807) :
    Calls Try.prog 24 #[.slice a l.length cap, .string ByteArray.empty] w (OfPost S w (l.filter (pickB ByteArray.empty))) := by
  rw [pick_empty]
  have hpost : Hid (OfPost S w l (.returned (.slice a l.length cap)) w) := ⟨Below.refl _ w, a, cap, rfl, hc, hm, h.mono (fun b hb hlt => .inl ⟨hb, hlt⟩)⟩
  clear h hc hm
  go_enter Try.func24, Try.ntmps24
  go_wp2_with fail
  go_ret
  exact hpost.out
theorem filter_take_succ {l : List Chg} {i : Nat} {c : Chg} (p : Chg → Bool) (h : l[i]? = some c) : (l.take (i + 1)).filter p = (l.take i).filter p ++ (if p c then [c] else []) := by
  rw [List.take_add_one, h, List.filter_append]
  simp [List.filter_cons]
set_option maxHeartbeats 2000000 in
set_option maxRecDepth 100000 in
theorem of_some {S : Nat → Prop} {a : Option Addr} {l : List Chg} {cap : Nat} {w : World} (inn : ByteArray) (h : PtrsAt S w a l) (hc : l.length ≤ cap) (hl : l.length ≤ 1048576) (hne : inn ≠ ByteArray.empty) :
    Calls Try.prog 24 #[.slice a l.length cap, .string inn] w (OfPost S w (l.filter (pickB inn))) := by
  obtain ⟨ri, hri, hri1, hri2, hri3⟩ := ptr_info
  have hpk : Hid (∀ c, pickB inn c = decide (c.nm = inn)) := fun c => by simp [pickB, hne]
  have hpost : Hid (∀ a' n' cap' w', Ofs S w w' a' n' cap' (l.filter (pickB inn)) → OfPost S w (l.filter (pickB inn)) (.returned (.slice a' n' cap')) w') := fun a' n' cap' w' hO => by
    obtain ⟨gs, h1, h2, h3, h4⟩ := hO.row
    have hmx := h3.mx
    unfold maxLen at hmx
    exact ⟨hO.bel, a', cap', by rw [h2], by rw [h2]; exact h3.le, by omega, hO.ptrs⟩
  obtain ⟨n, hn⟩ : ∃ n, Hid (l.length = n) := ⟨_, rfl⟩
  rw [hn.out] at hc hl ⊢
  have hst : Hid (Ofs S w w none 0 0 []) := ⟨Below.refl _ w, [], rfl, rfl, Rw.nil w _ _ _, fun j g c hg => by simp at hg⟩
  replace h := hid_of h
  have hb0 := bytes_empty hne
  go_enter Try.func24, Try.ntmps24
  go_wp2_with fail
  go_loopw [5, 13] (fun sv iv wr => ∃ (i : Nat) (a' : Option Addr) (n' cap' : Nat), iv = .int .i64 (i : Nat) ∧ sv = .slice a' n' cap' ∧ i ≤ n ∧ Hid (Ofs S w wr a' n' cap' ((l.take i).filter (pickB inn)))) (fun _ iv _ => n - (intOf iv).toNat)
  case atStart => exact ⟨0, none, 0, 0, rfl, rfl, Nat.zero_le _, hst⟩
  case round =>
    clear hst
    obtain ⟨i, a', n', cap', rfl, rfl, hin, hO⟩ := hrel
    by_cases hi : i < n
    · obtain ⟨⟨cst, cnm, cid, ckd⟩, hce⟩ : ∃ c, l[i]? = some c := ⟨_, List.getElem?_eq_getElem (by rw [hn.out]; exact hi)⟩
      obtain ⟨b1, o1, g1, rfl, s1, s2, h4, h5⟩ := h.out i _ hce
      replace h4 := stay hO.out.bel h4
      have h5' := h5.keep (hO.out.bel.block _ h5.lt)
      have d1 := h5'.nm
      simp only [Nat.zero_add] at d1
      have hnl : n' ≤ i := by
        obtain ⟨gs, h1, h2, -⟩ := hO.out.row
        have := List.length_filter_le (pickB inn) (l.take i)
        have h3 := List.length_take_le i l
        omega
      by_cases hnm : cnm = inn
      · subst hnm
        have hmap : Hid ((l.take (i + 1)).filter (pickB cnm) = (l.take i).filter (pickB cnm) ++ [⟨cst, cnm, cid, ckd⟩]) := by
          show _ = _
          rw [filter_take_succ _ hce, hpk.out]
          simp
        obtain ⟨gs, q1, q2, q3, q4⟩ := hO.out.row
        obtain ⟨W2, hW2⟩ : ∃ W2, Hid (wr.alloc (.cells #[.pointer (some ⟨g1, 0, none⟩)] 59) = W2) := ⟨_, rfl⟩
        have hB2 : Below wr.heap.size wr W2 := by rw [← hW2.out]; exact (Below.refl _ wr).alloc (Nat.le_refl _) _
        have hB02 : Below w.heap.size w W2 := hO.out.bel.trans (hB2.mono hO.out.bel.size)
        have hsrc : Src Try.prog 1 54 (.slice (some ⟨wr.heap.size, 0, none⟩) 1 1) 1 [ptrV g1] W2 := by
          rw [← hW2.out]
          exact Src.of_block Try.underlying54 (heap_alloc_new wr _) 1 1 rfl (fun u hu => by simp at hu; subst hu; rfl)
        have x0 := hid_of (q3.below hB2)
        have x6 : Hid (n' + 1 ≤ maxLen ∧ (n' + 1) * 8 ≤ 140737488355328 ∧ w.heap.size ≤ W2.heap.size) := by
          have := hB02.size
          unfold maxLen
          exact ⟨by omega, by omega, by omega⟩
        have hfin : Hid (∀ g2 o2 c2 W3, Appd W2 w.heap.size 1 a' n' 1 cap' (gs.map ptrV ++ [ptrV g1]) g2 o2 c2 W3 → Hid (Ofs S w W3 (some ⟨g2, o2, none⟩) (n' + 1) c2 ((l.take (i + 1)).filter (pickB cnm)))) := fun g2 o2 c2 W3 hA => by
          refine ⟨⟨hA.fr.os.trans hB02.os, hA.fr.tape.trans hB02.tape, hA.fr.output.trans hB02.output, Nat.le_trans hB02.size hA.fr.size, fun k hk => (hA.fr.block k (Nat.lt_of_lt_of_le hk hB02.size) (fun e => by have := hO.out.blk (by omega) k e.1; omega)).trans (hB02.block k hk)⟩, gs ++ [g1], by simp [q1], by rw [hmap.out]; simp [q2], by rw [List.map_append]; exact hA.row, fun j g c hg hcc => ?_⟩
          rw [hmap.out] at hcc
          rcases Nat.lt_or_ge j gs.length with hj | hj
          · rw [List.getElem?_append_left hj] at hg
            rw [List.getElem?_append_left (by omega)] at hcc
            exact q4 j g c hg hcc
          · have hj0 : j = gs.length := by
              have := (List.getElem?_eq_some_iff.1 hg).1
              simp at this
              omega
            subst hj0
            rw [List.getElem?_append_right (Nat.le_refl _), Nat.sub_self] at hg
            rw [List.getElem?_append_right (by omega), show gs.length - ((l.take i).filter (pickB cnm)).length = 0 from by omega] at hcc
            simp at hg hcc
            subst hg hcc
            exact ⟨s2, h5.lt, h5⟩
        have hlt1 : g1 < w.heap.size := h5.lt
        clear hB2 hB02 q3 q4 h5 h5' hce hO hlt1
        go_wp2_with (first
          | rw [hW2.out]
          | (at_builtin; go_must (refine wpList_append_rw W2 rfl _ _ 54 rfl 59 ri _ 1 8 Try.underlying54 hri hri1 hri2 hri3 rfl w.heap.size a' n' cap' (gs.map ptrV) rfl x0.out.len x0.out.le x0.out.mx x0.out.rd _ rfl 1 [ptrV g1] hsrc (fun _ => x0.out) (by decide) x6.out.1 x6.out.2.1 x6.out.2.2 ?_); intro g2 o2 c2 W3 hA; have hO3 := hfin.out g2 o2 c2 W3 hA; clear hA hsrc hfin x0))
        go_roundw
        case rel => exact ⟨i + 1, _, _, _, by go_num, rfl, by omega, hO3⟩
        case measure =>
          simp only [intOf]
          omega
      · have hb1 := bytes_ne hnm
        have hmap : Hid ((l.take (i + 1)).filter (pickB inn) = (l.take i).filter (pickB inn)) := by
          show _ = _
          rw [filter_take_succ _ hce, hpk.out]
          simp [hnm]
        clear h5 h5' hce
        go_wp2_with fail
        go_roundw
        case rel => exact ⟨i + 1, _, _, _, by go_num, rfl, by omega, by rw [hmap.out]; exact hO⟩
        case measure =>
          simp only [intOf]
          omega
    · obtain rfl : i = n := by omega
      have hfin : Hid (OfPost S w (l.filter (pickB inn)) (.returned (.slice a' n' cap')) wr) := by
        have := hO.out
        rw [List.take_of_length_le (by rw [hn.out]; exact Nat.le_refl _)] at this
        exact hpost.out _ _ _ _ this
      go_wp2_with fail
      go_ret
      exact hfin.out
theorem of_any {S : Nat → Prop} {a : Option Addr} {l : List Chg} {cap : Nat} {w : World} (inn : ByteArray) (h : PtrsAt S w a l) (hc : l.length ≤ cap) (hm : cap ≤ 9223372036854775807) (hl : l.length ≤ 1048576) :
    Calls Try.prog 24 #[.slice a l.length cap, .string inn] w (OfPost S w (l.filter (pickB inn))) := by
  by_cases hne : inn = ByteArray.empty
  · subst hne
    exact of_all h hc hm
  · exact of_some inn h hc hl hne
set_option maxHeartbeats 2000000 in
set_option maxRecDepth 100000 in
theorem fitting_any {S : Nat → Prop} {a : Option Addr} {l : List Chg} {cap : Nat} {w : World} (lim : Int) (h : PtrsAt S w a l) (hr : Rise l) (hl : l.length ≤ 1048576) (hp : ∀ c ∈ l, 1 ≤ c.st ∧ c.st ≤ 9223372036854775807) :
    Calls Try.prog 25 #[.slice a l.length cap, .int .i64 lim] w fun e w' => e = .returned (.int .i64 (fit l lim)) ∧ Below w.heap.size w w' := by
  by_cases h1 : lim ≤ 0
  · rw [fit_all (.inl h1)]
    have h2 : decide (lim ≤ 0) = true := decide_eq_true h1
    obtain ⟨n, hn⟩ : ∃ n, Hid (l.length = n) := ⟨_, rfl⟩
    rw [hn.out] at hl ⊢
    clear h hr hp
    go_enter Try.func25, Try.ntmps25
    go_wp2_with fail
    go_ret
    exact ⟨rfl, Below.refl _ w⟩
  · by_cases h2 : (l.length : Int) ≤ lim
    · rw [fit_all (.inr h2)]
      obtain ⟨n, hn⟩ : ∃ n, Hid (l.length = n) := ⟨_, rfl⟩
      rw [hn.out] at hl h2 ⊢
      clear h hr hp
      go_enter Try.func25, Try.ntmps25
      go_wp2_with fail
      go_ret
      exact ⟨rfl, Below.refl _ w⟩
    · obtain ⟨q, rfl⟩ := Int.eq_ofNat_of_zero_le (a := lim) (by omega)
      have hq : q < l.length := by omega
      have he := List.getElem?_eq_getElem hq
      obtain ⟨c, hce⟩ : ∃ c, Hid (l[q]'hq = c) := ⟨_, hid_of rfl⟩
      rw [hce.out] at he
      have hpc := hp c (List.mem_of_getElem? he)
      have hf : Hid (fit l (q : Int) = if 0 < upT l (c.st - 1) then upT l (c.st - 1) else upT l c.st) := fit_some (by omega) he
      obtain ⟨b, o, g, rfl, -, -, h4, h5⟩ := h q c he
      have y0 := h5.st
      obtain ⟨x, hx⟩ : ∃ x, Hid (c.st = x) := ⟨_, rfl⟩
      rw [hx.out] at y0 hf hpc
      obtain ⟨hp1, hp2⟩ := hpc
      have hu1 := hid_of (upTo_any (w := w) (cap := cap) (x - 1) h hr (by omega))
      have hu2 := hid_of (fun W (hB : Below w.heap.size w W) => upTo_any (w := W) (cap := cap) x (h.below hB) hr (by omega))
      obtain ⟨u1, hu1e⟩ : ∃ u, Hid (upT l (x - 1) = u) := ⟨_, rfl⟩
      obtain ⟨u2, hu2e⟩ : ∃ u, Hid (upT l x = u) := ⟨_, rfl⟩
      rw [hu1e.out] at hu1 hf
      rw [hu2e.out] at hu2 hf
      obtain ⟨n, hn⟩ : ∃ n, Hid (l.length = n) := ⟨_, rfl⟩
      rw [hn.out] at hl h2 hq hu1 hu2 ⊢
      have hq2 : (q : Int) < (n : Int) := by omega
      have hq3 : (0 : Int) ≤ (q : Int) := by omega
      have hq4 : ¬ (n : Int) ≤ (q : Int) := by omega
      clear h hr hp he h5
      by_cases hu : 0 < u1
      · have hff : Hid (fit l (q : Int) = u1) := hf.out.trans (if_pos hu)
        go_enter Try.func25, Try.ntmps25
        go_wp2_with fail
        refine hu1.out.mono ?_
        rintro e W1 ⟨rfl, hB1⟩
        replace hB1 := hid_of hB1
        go_wp2_with fail
        go_ret
        exact ⟨by rw [hff.out]; rfl, hB1.out⟩
      · have hff : Hid (fit l (q : Int) = u2) := hf.out.trans (if_neg hu)
        go_enter Try.func25, Try.ntmps25
        go_wp2_with fail
        refine hu1.out.mono ?_
        rintro e W1 ⟨rfl, hB1⟩
        replace hu2 := hid_of (hu2.out W1 hB1)
        replace hB1 := hid_of hB1
        go_wp2_with fail
        refine hu2.out.mono ?_
        rintro e W2 ⟨rfl, hB2⟩
        go_wp2_with fail
        go_ret
        exact ⟨by rw [hff.out]; rfl, hB1.out.trans (hB2.mono hB1.out.size)⟩
end Go.Proofs.Ytpdcinicnekeoaa
