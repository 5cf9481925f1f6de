import Derived.Test.YtdgdfpgekccibabAL
/-! The document's table of what is ahead. -/
namespace Go.Proofs.Ytdgdfpgekccibab
open Go Go.RowKit
theorem bool_info : (Try.prog.info? 4).map (fun i => (i.zero, i.size, i.bytes)) = some (some (.bool false), 1, 1) := by kernel_rfl
theorem bools_u : Try.prog.underlying 28 = some (.slice 27) := by kernel_rfl
theorem bools_info : ∃ ri, Try.prog.info? 27 = some ri ∧ ri.zero = some (.slice none 0 0) ∧ ri.size = 1 ∧ ri.bytes = 24 := by
  have : (Try.prog.info? 27).map (fun i => (i.zero, i.size, i.bytes)) = some (some (.slice none 0 0), 1, 24) := by kernel_rfl
  cases hq : Try.prog.info? 27 with
  | none => rw [hq] at this; cases this
  | some ri => rw [hq] at this; simp at this; exact ⟨ri, rfl, this.1, this.2.1, this.2.2⟩
def rowsV (G : Nat → Nat) (n j : Nat) : List Value := (List.range j).map fun q => .slice (some ⟨G q, 0, none⟩) n n
theorem rowsV_at {G : Nat → Nat} {n j q : Nat} (h : q < j) : (rowsV G n j)[q]? = some (.slice (some ⟨G q, 0, none⟩) n n) := by
  unfold rowsV
  rw [List.getElem?_map, List.getElem?_range h]
  rfl
theorem rowsV_more {G : Nat → Nat} {n j R : Nat} : rowsV (fun q => if q = j then R else G q) n (j + 1) = rowsV G n j ++ [.slice (some ⟨R, 0, none⟩) n n] := by
  unfold rowsV
  rw [List.range_succ, List.map_append]
  congr 1
  · exact List.map_congr_left fun q hq => by
      have : q ≠ j := by have := List.mem_range.1 hq; omega
      simp [this]
  · simp
/-- The table, j rows of it. -/
structure TabAt (lo : Nat) (w : World) (evs : List Ev) (n j : Nat) (ov : Value) (G : Nat → Nat) : Prop where
  row : w.ownsRow lo 27 1 ov j (rowsV G n j)
  each : ∀ q, q < j → lo ≤ G q ∧ w.rowIs (G q) 4 n (fun k => .bool (knowB evs q k))
theorem tab_own {lo : Nat} {w : World} {n j : Nat} {ov : Value} {G : Nat → Nat} (h : w.ownsRow lo 27 1 ov j (rowsV G n j)) : ∀ b, ov.ownBlock = some b → lo ≤ b ∧ ∃ cs, w.heap[b]? = some (.cells cs 27 (0, 0)) := fun b e => by
  obtain ⟨h1, h2⟩ := h
  rcases h2 with ⟨hv, _⟩ | ⟨g', cap', cur, hv, hg', hh, _⟩
  · rw [hv] at e; cases e
  · rw [hv] at e
    cases e
    exact ⟨hg', cur, hh⟩
theorem TabAt.under {lo : Nat} {w w' : World} {evs : List Ev} {n j : Nat} {ov : Value} {G : Nat → Nat} (h : TabAt lo w evs n j ov G) (hB : Below w.heap.size w w') : TabAt lo w' evs n j ov G :=
  ⟨ownsRow_keep h.row (fun b e => by obtain ⟨-, cs, h2⟩ := tab_own h.row b e; exact hB.block b (Array.getElem?_eq_some_iff.1 h2).1), fun q hq => ⟨(h.each q hq).1, (h.each q hq).2.of_block (hB.block _ (h.each q hq).2.lt)⟩⟩
theorem TabAt.more {lo : Nat} {w w0 w2 : World} {evs : List Ev} {n j g c R : Nat} {ov : Value} {G : Nat → Nat} (h : TabAt lo w evs n j ov G) (hR : w.rowIs R 4 n (fun k => .bool (knowB evs j k))) (hl : lo ≤ R) (hlo : lo ≤ w.heap.size) (hB : Below w.heap.size w w0)
    (r1 : w2.ownsRow lo 27 1 (.slice (some ⟨g, 0, none⟩) (j + 1) c) (j + 1) (rowsV G n j ++ [.slice (some ⟨R, 0, none⟩) n n])) (r2 : w0.grownBy w2 ov.ownBlock) :
    TabAt lo w2 evs n (j + 1) (.slice (some ⟨g, 0, none⟩) (j + 1) c) (fun q => if q = j then R else G q) ∧ Below lo w w2 := by
  have hown := tab_own h.row
  have hk : ∀ {b : Nat} {f : Nat → Value}, w.rowIs b 4 n f → w2.rowIs b 4 n f := fun {b f} hr => by
    refine hr.of_block ?_
    refine (r2.block b (Nat.lt_of_lt_of_le hr.lt hB.size) (fun e' => ?_)).trans (hB.block b hr.lt)
    obtain ⟨-, cs', h2⟩ := hown b e'.symm
    obtain ⟨cs, h3, -⟩ := hr
    rw [h3] at h2
    cases h2
  refine ⟨⟨by rw [rowsV_more]; exact r1, fun q hq => ?_⟩, (hB.mono hlo).grown r2 (Nat.le_trans hlo hB.size) (fun b e => (hown b e).1)⟩
  by_cases e : q = j
  · subst e
    simp only [if_true]
    exact ⟨hl, hk hR⟩
  · simp only [e, if_false]
    exact ⟨(h.each q (by omega)).1, hk (h.each q (by omega)).2⟩
theorem rowB_zero (evs : List Ev) (j k : Nat) : rowB evs j 0 k = false := by unfold rowB; rfl
theorem rowB_no {evs : List Ev} {j i : Nat} (h : linkB evs i j = false) (k : Nat) : rowB evs j (i + 1) k = rowB evs j i k := by simp [rowB, h]
theorem rowB_yes {evs : List Ev} {j i : Nat} (h : linkB evs i j = true) (k : Nat) : rowB evs j (i + 1) k = if k = i then true else if k < i then rowB evs j i k || knowB evs i k else rowB evs j i k := by simp [rowB, h]
set_option maxHeartbeats 4000000 in
set_option maxRecDepth 100000 in
theorem refahead_any (a : Option Addr) (cap : Nat) (evs : List Ev) (w : World) (hE : EvsAt w a evs) (hcap : evs.length ≤ cap) (hcm : cap ≤ 9223372036854775807) (hn2 : evs.length ≤ 200) (hok : ∀ e ∈ evs, 0 ≤ e.c) :
    Calls Try.prog 10 #[.slice a evs.length cap] w fun e w' => ∃ ov G, e = .returned ov ∧ TabAt w.heap.size w' evs evs.length evs.length ov G ∧ Below w.heap.size w w' := by
  obtain ⟨n, hn⟩ : ∃ n, Hid (evs.length = n) := ⟨_, rfl⟩
  have hlk := hid_of (fun i j W (hW : Below w.heap.size w W) hij hj => linked_any a cap evs i j W (hE.keep hW) hcap hcm hij hj)
  have hkn := hid_of (fun j (hj : j < evs.length) k => rowB_know hok hj k)
  clear hE hok
  rw [hn.out] at hcap hn2 hlk hkn ⊢
  obtain ⟨ri, hri, hri1, hri2, hri3⟩ := bools_info
  obtain ⟨lo, hlo⟩ : ∃ lo, Hid (w.heap.size = lo) := ⟨_, rfl⟩
  rw [hlo.out] at hlk ⊢
  go_enter Try.func10, Try.ntmps10
  go_wp2_with fail
  go_loopw [3, 4] (fun ov jv wr => ∃ (j : Nat) (G : Nat → Nat), jv = .int .i64 (j : Nat) ∧ j ≤ n ∧ TabAt lo wr evs n j ov G ∧ Below lo w wr) (fun _ jv _ => n - (intOf jv).toNat)
  case atStart => exact ⟨0, fun _ => 0, rfl, Nat.zero_le _, ⟨⟨by simp [rowsV], .inl ⟨rfl, rfl⟩⟩, fun q hq => by omega⟩, Below.refl _ w⟩
  case round =>
    obtain ⟨wo, hwo⟩ : ∃ wo : World, wo = wr := ⟨_, rfl⟩
    subst hwo
    obtain ⟨j, G, rfl, hjn, hT, hB⟩ := hrel
    have hlw : lo ≤ wo.heap.size := by have := hB.size; have := hlo.out; omega
    by_cases hj : j < n
    · obtain ⟨oa, oc, hov, hoc, -, hog⟩ := ownsRow_form hT.row
      subst hov
      have hmk := run_make_row' (P := Try.prog) 27 4 (.bool false) 1 Try.underlying27 bool_info rfl .i64 .i64 n (by omega) (by omega) wo
      obtain ⟨X1, hX1⟩ : ∃ X1, Hid (wo.alloc (.cells (madeCells #[.bool false] n) 4) = X1) := ⟨_, rfl⟩
      have hR1 : Hid (X1.rowIs wo.heap.size 4 n (fun k => .bool (rowB evs j 0 k))) := by
        unfold Hid
        rw [← hX1.out]
        exact (World.rowIs_made wo _ n _).congr (fun k _ => by rw [rowB_zero])
      have hB1 : Hid (Below wo.heap.size wo X1) := by unfold Hid; rw [← hX1.out]; exact (Below.refl _ wo).alloc (Nat.le_refl _) _
      replace hT := hid_of hT
      replace hB := hid_of hB
      obtain ⟨R, hRs⟩ : ∃ R, Hid (wo.heap.size = R) := ⟨_, rfl⟩
      rw [hRs.out] at hR1 hB1 hmk hlw
      go_upto_region 6 with (rw [hX1.out])
      clear hmk hX1
      go_wp2_with fail
      go_loopw [6] (fun iv wr2 => ∃ i : Nat, iv = .int .i64 (i : Nat) ∧ i ≤ j ∧ wr2.rowIs R 4 n (fun k => .bool (rowB evs j i k)) ∧ Below R wo wr2) (fun iv _ => j - (intOf iv).toNat)
      case atStart => exact ⟨0, rfl, Nat.zero_le _, hR1.out, hB1.out⟩
      case round =>
        obtain ⟨wr2, hwo⟩ : ∃ wr2 : World, wr2 = wr := ⟨_, rfl⟩
        subst hwo
        obtain ⟨i, rfl, hij, hR2, hB2⟩ := hrel
        have hB02 : Below lo w wr2 := hB.out.trans (hB2.mono hlw)
        by_cases hi : i < j
        · have hl := hid_of (hlk.out i j wr2 hB02 hi hj)
          obtain ⟨t, ht⟩ : ∃ t, Hid (linkB evs i j = t) := ⟨_, rfl⟩
          rw [ht.out] at hl
          replace hR2 := hid_of hR2
          replace hB2 := hid_of hB2
          have hin : i < n := by omega
          go_wp2_with fail
          refine hl.out.mono ?_
          rintro e Z ⟨rfl, hZ⟩
          have hBZ : Hid (Below R wo Z) := hB2.out.trans (hZ.mono (by have := hB2.out.size; have := hRs.out; omega))
          have hRZ : Hid (Z.rowIs R 4 n (fun k => .bool (rowB evs j i k))) := hR2.out.of_block (hZ.block _ hR2.out.lt)
          clear hl hZ hR2 hB2 hB02
          cases t with
          | false =>
            go_wp2_with fail
            go_roundw
            case rel => exact ⟨i + 1, by go_num, by omega, hRZ.out.congr (fun k _ => by rw [rowB_no ht.out]), hBZ.out⟩
            case measure =>
              simp only [intOf]
              omega
          | true =>
            have c1 := hRZ.out.cell hin
            have f1 := hRZ.out.frozen i
            obtain ⟨Y, hY⟩ : ∃ Y, Hid (Z.setCell ⟨R, i, none⟩ (.bool true) = Y) := ⟨_, rfl⟩
            have hRY : Hid (Y.rowIs R 4 n (fun q => .bool (if q = i then true else if q < 0 then rowB evs j i q || knowB evs i q else rowB evs j i q))) := by
              unfold Hid
              rw [← hY.out]
              exact (hRZ.out.set i (.bool true)).congr (fun q _ => by by_cases e : q = i <;> simp [e])
            have hBY : Hid (Below R wo Y) := by unfold Hid; rw [← hY.out]; exact hBZ.out.setCell (p := ⟨R, i, none⟩) (Nat.le_refl _) _
            clear hRZ hBZ
            go_upto_region 11 with (rw [hY.out])
            clear c1 f1 hY
            go_wp2_with fail
            go_loopw [7] (fun kv wr3 => ∃ k : Nat, kv = .int .i64 (k : Nat) ∧ k ≤ i ∧ wr3.rowIs R 4 n (fun q => .bool (if q = i then true else if q < k then rowB evs j i q || knowB evs i q else rowB evs j i q)) ∧ Below R wo wr3) (fun kv _ => i - (intOf kv).toNat)
            case atStart => exact ⟨0, rfl, Nat.zero_le _, hRY.out, hBY.out⟩
            case round =>
              clear hRY hBY
              obtain ⟨wr3, hwo⟩ : ∃ wr3 : World, wr3 = wr := ⟨_, rfl⟩
              subst hwo
              obtain ⟨k, rfl, hki, hR3, hB3⟩ := hrel
              by_cases hk : k < i
              · have hT3 := hT.out.under (by rw [hRs.out]; exact hB3)
                obtain ⟨g, rfl⟩ := hog (by omega)
                have y0 := ownsRow_cell hT3.row (rowsV_at (G := G) (n := n) (show i < j from hi))
                have y1 := (hT3.each i hi).2.cell (show k < n by omega)
                have c2 := hR3.cell (show k < n by omega)
                have f2 := hR3.frozen k
                rw [if_neg (show ¬ k = i by omega), if_neg (show ¬ k < k by omega)] at c2
                have hkn' : k < n := by omega
                obtain ⟨r, hr⟩ : ∃ r, Hid (rowB evs j i k = r) := ⟨_, rfl⟩
                obtain ⟨s, hs⟩ : ∃ s, Hid (knowB evs i k = s) := ⟨_, rfl⟩
                rw [hr.out] at c2
                rw [hs.out] at y1
                have hset := hid_of (fun (v : Bool) (hv : v = (r || s)) => ((hR3.set k (.bool v)).congr (g := fun q => .bool (if q = i then true else if q < k + 1 then rowB evs j i q || knowB evs i q else rowB evs j i q)) (fun q _ => by
                  by_cases e : q = k
                  · subst e
                    rw [if_pos rfl, if_neg (show ¬ q = i by omega), if_pos (Nat.lt_succ_self q), hr.out, hs.out, hv]
                  · rw [if_neg e]
                    by_cases e1 : q = i
                    · rw [if_pos e1, if_pos e1]
                    · rw [if_neg e1, if_neg e1]
                      by_cases e2 : q < k
                      · rw [if_pos e2, if_pos (by omega)]
                      · rw [if_neg e2, if_neg (by omega)])))
                have hbel := hid_of (fun v => hB3.setCell (p := ⟨R, k, none⟩) (Nat.le_refl _) v)
                clear hR3 hB3 hT3
                cases r with
                | true =>
                  go_wp2_with fail
                  go_roundw
                  case rel => exact ⟨k + 1, by go_num, by omega, hset.out true (by simp), hbel.out _⟩
                  case measure =>
                    simp only [intOf]
                    omega
                | false =>
                  go_wp2_with fail
                  go_roundw
                  case rel => exact ⟨k + 1, by go_num, by omega, hset.out s (by simp), hbel.out _⟩
                  case measure =>
                    simp only [intOf]
                    omega
              · obtain rfl : k = i := by omega
                replace hR3 := hid_of hR3
                replace hB3 := hid_of hB3
                go_wp2_with fail
                go_roundw
                case rel => exact ⟨k + 1, by go_num, by omega, hR3.out.congr (fun q _ => by rw [rowB_yes ht.out]), hB3.out⟩
                case measure =>
                  simp only [intOf]
                  omega
        · obtain rfl : i = j := by omega
          have hTA := hT.out.under (by rw [hRs.out]; exact hB2)
          have hRA : wr2.rowIs R 4 n (fun k => .bool (knowB evs i k)) := hR2.congr (fun k _ => by rw [hkn.out i hj])
          have hlA : lo ≤ wr2.heap.size := Nat.le_trans hlw (by have := hB2.size; have := hRs.out; omega)
          have hrow := hid_of hTA.row
          have hfin := hid_of (fun w0 g c w2 h1 r1 r2 => hTA.more (w0 := w0) (w2 := w2) (g := g) (c := c) hRA hlw hlA h1 r1 r2)
          have hone : Hid (∀ v ∈ [Value.slice (some ⟨R, 0, none⟩) n n], v.oneCell' = true) := fun v hv => by simp at hv; subst hv; rfl
          replace hlA := hid_of hlA
          replace hB02 := hid_of hB02
          clear hTA hRA hR2 hB2
          go_wp2_with (at_builtin; refine wpList_append_lies _ rfl _ _ 28 rfl lo 27 ri _ 1 24 bools_u hri hri1 hri2 hri3 rfl (by decide) _ i (rowsV G n i) rfl (hrow.out.alloc _) _ 1 1 [.slice (some ⟨R, 0, none⟩) n n] rfl rfl (World.news_of_block (heap_alloc_new wr2 _)) hone.out (by decide) (by unfold maxLen; omega) (by omega) (Nat.le_trans hlA.out (Nat.le_of_lt (World.size_alloc_lt wr2 _))) _ rfl ?_; intro g1 c1 W2 r1 r2 r3 r4; replace r1 := hid_of r1; replace r2 := hid_of r2; clear r3 r4)
          go_roundw
          case rel =>
            obtain ⟨e1, e2⟩ := hfin.out _ _ _ _ ((Below.refl _ wr2).alloc (Nat.le_refl _) _) r1.out r2.out
            exact ⟨i + 1, _, by go_num, by omega, e1, hB02.out.trans e2⟩
          case measure =>
            simp only [intOf]
            omega
    · obtain rfl : j = n := by omega
      go_wp2_with fail
      go_ret
      exact ⟨_, G, rfl, hT, hB⟩
end Go.Proofs.Ytdgdfpgekccibab
