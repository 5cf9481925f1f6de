import Derived.Test.YtdgdfpgekccibabAH
import Derived.Test.YtdgdfpgekccibabKC
import Derived.Test.YtdgdfpgekccibabCK
/-! The document's Clocks. -/
namespace Go.Proofs.Ytdgdfpgekccibab
open Go Go.RowKit
theorem ints_u : Try.prog.underlying 30 = some (.slice 39) := by kernel_rfl
theorem ints_info : ∃ ri, Try.prog.info? 39 = some ri ∧ ri.zero = some (.slice none 0 0) ∧ ri.size = 1 ∧ ri.bytes = 24 := by
  have : (Try.prog.info? 39).map (fun i => (i.zero, i.size, i.bytes)) = some (some (.slice none 0 0), 1, 24) := by kernel_rfl
  cases hq : Try.prog.info? 39 with
  | none => rw [hq] at this; cases this
  | some ri => rw [hq] at this; simp at this; exact ⟨ri, rfl, this.1, this.2.1, this.2.2⟩
/-- The clocks told so far. -/
structure CkAt (lo : Nat) (w : World) (evs : List Ev) (nc j : Nat) (rv : Value) (K : Nat → Nat) : Prop where
  row : w.ownsRow lo 39 1 rv j (rowsV K nc j)
  each : ∀ q, q < j → lo ≤ K q ∧ w.rowIs (K q) 3 nc (cnt (clkAt evs q))
theorem ck_own {lo : Nat} {w : World} {m : Nat} {l : List Value} {rv : Value} (h : w.ownsRow lo 39 1 rv m l) : ∀ b, rv.ownBlock = some b → lo ≤ b ∧ ∃ cs, w.heap[b]? = some (.cells cs 39 (0, 0)) := fun b e => by
  obtain ⟨h1, h2⟩ := h
  rcases h2 with ⟨hv, _⟩ | ⟨g', cap', cur, hv, hg', hh, _⟩
  · rw [hv] at e; cases e
  · rw [hv] at e
    cases e
    exact ⟨hg', cur, hh⟩
theorem CkAt.under {lo : Nat} {w w' : World} {evs : List Ev} {nc j : Nat} {rv : Value} {K : Nat → Nat} (h : CkAt lo w evs nc j rv K) (hB : Below w.heap.size w w') : CkAt lo w' evs nc j rv K :=
  ⟨ownsRow_keep h.row (fun b e => by obtain ⟨-, cs, h2⟩ := ck_own h.row b e; exact hB.block b (Array.getElem?_eq_some_iff.1 h2).1), fun q hq => ⟨(h.each q hq).1, (h.each q hq).2.of_block (hB.block _ (h.each q hq).2.lt)⟩⟩
theorem CkAt.more {lo : Nat} {w w0 w2 : World} {evs : List Ev} {n nc j g c R : Nat} {rv tv : Value} {K G : Nat → Nat} (h : CkAt lo w evs nc j rv K) (hT : TabAt lo w evs n n tv G) (hR : w.rowIs R 3 nc (cnt (clkAt evs j))) (hl : lo ≤ R) (hlo : lo ≤ w.heap.size) (hB : Below w.heap.size w w0)
    (r1 : w2.ownsRow lo 39 1 (.slice (some ⟨g, 0, none⟩) (j + 1) c) (j + 1) (rowsV K nc j ++ [.slice (some ⟨R, 0, none⟩) nc nc])) (r2 : w0.grownBy w2 rv.ownBlock) :
    CkAt lo w2 evs nc (j + 1) (.slice (some ⟨g, 0, none⟩) (j + 1) c) (fun q => if q = j then R else K q) ∧ TabAt lo w2 evs n n tv G ∧ Below lo w w2 := by
  have hown := ck_own h.row
  have hk : ∀ {b : Nat} {t : TypeId} {n : Nat} {f : Nat → Value}, t ≠ 39 → w.rowIs b t n f → w2.rowIs b t n f := fun {b t n f} hne hr => by
    refine hr.of_block ?_
    refine (r2.block b (Nat.lt_of_lt_of_le hr.lt hB.size) (fun e' => ?_)).trans (hB.block b hr.lt)
    obtain ⟨-, cs', h2⟩ := hown b e'.symm
    obtain ⟨cs, h3, -⟩ := hr
    rw [h3] at h2
    cases h2
    exact hne rfl
  refine ⟨⟨by rw [rowsV_more]; exact r1, fun q hq => ?_⟩, ⟨?_, fun q hq => ⟨(hT.each q hq).1, hk (by decide) (hT.each q hq).2⟩⟩, (hB.mono hlo).grown r2 (Nat.le_trans hlo hB.size) (fun b e => (hown b e).1)⟩
  · by_cases e : q = j
    · subst e
      simp only [if_true]
      exact ⟨hl, hk (by decide) hR⟩
    · simp only [e, if_false]
      exact ⟨(h.each q (by omega)).1, hk (by decide) (h.each q (by omega)).2⟩
  · refine ownsRow_keep hT.row (fun b e => ?_)
    obtain ⟨-, cs, h2⟩ := tab_own hT.row b e
    have hlt := (Array.getElem?_eq_some_iff.1 h2).1
    refine (r2.block b (Nat.lt_of_lt_of_le hlt hB.size) (fun e' => ?_)).trans (hB.block b hlt)
    obtain ⟨-, cs', h3⟩ := hown b e'.symm
    rw [h2] at h3
    cases h3
/-- What the document's Clocks tells. -/
def RefClocks (w : World) (evs : List Ev) (clients : Int) (e : Ending) (w' : World) : Prop :=
  Below w.heap.size w w' ∧ ((chk evs clients ≠ 0 ∧ e = .returned (.tuple #[.slice none 0 0, .int .i64 (chk evs clients)])) ∨ (chk evs clients = 0 ∧ ∃ rv K, e = .returned (.tuple #[rv, .int .i64 0]) ∧ CkAt w.heap.size w' evs clients.toNat evs.length rv K))
set_option maxHeartbeats 4000000 in
set_option maxRecDepth 100000 in
theorem refclocks_any (a : Option Addr) (cap : Nat) (evs : List Ev) (clients : Int) (w : World) (hE : EvsAt w a evs) (hcap : evs.length ≤ cap) (hcm : cap ≤ 9223372036854775807) (hn2 : chk evs clients = 0 → evs.length ≤ 200) :
    Calls Try.prog 12 #[.slice a evs.length cap, .int .i64 clients] w (RefClocks w evs clients) := by
  have hck := hid_of (refcheck_any a cap evs clients w hE (by omega))
  by_cases h0 : chk evs clients = 0
  · have hn3 := hn2 h0
    clear hn2
    obtain ⟨q1, q2, q3, q4⟩ := chk_ok h0
    obtain ⟨nc, rfl⟩ := Int.eq_ofNat_of_zero_le q1
    have hpos : ∀ e ∈ evs, 0 ≤ e.c := fun e he => (ok_c (q4 e he) q2).1
    have hcl : Hid (∀ e ∈ evs, 0 ≤ e.c ∧ e.c < (nc : Int)) := fun e he => ⟨(ok_c (q4 e he) q2).1, (ok_c (q4 e he) q2).2.1⟩
    have hah := hid_of (refahead_any a cap evs w hE hcap hcm hn3 hpos)
    have hpost : Hid (∀ e w', Below w.heap.size w w' → (∃ rv K, e = .returned (.tuple #[rv, .int .i64 0]) ∧ CkAt w.heap.size w' evs nc evs.length rv K) → RefClocks w evs nc e w') := fun e w' h1 h2 => ⟨h1, .inr ⟨h0, by rw [Int.toNat_natCast]; exact h2⟩⟩
    rw [h0] at hck
    obtain ⟨ri, hri, hri1, hri2, hri3⟩ := ints_info
    obtain ⟨n, hn⟩ : ∃ n, Hid (evs.length = n) := ⟨_, rfl⟩
    obtain ⟨lo, hlo⟩ : ∃ lo, Hid (w.heap.size = lo) := ⟨_, rfl⟩
    rw [hn.out] at hck hah hn3 hcap hpost ⊢
    have hnc : nc ≤ 16 := by omega
    replace hE := hid_of hE
    clear q1 q2 q3 q4 hpos h0
    go_enter Try.func12, Try.ntmps12
    go_wp2_with fail
    refine hck.out.mono ?_
    rintro e Z ⟨rfl, hz⟩
    obtain rfl : w = Z := hz.symm
    clear hz hck
    go_wp2_with fail
    refine hah.out.mono ?_
    rintro e W1 ⟨tv, G, rfl, hT1, hB1⟩
    obtain ⟨oa, oc, hov, hoc, -, hog⟩ := ownsRow_form hT1.row
    subst hov
    have hC1 : Hid (CkAt lo W1 evs nc 0 (.slice none 0 0) (fun _ => 0)) := ⟨⟨by simp [rowsV], .inl ⟨rfl, rfl⟩⟩, fun q hq => by omega⟩
    rw [hlo.out] at hT1 hB1 hpost
    replace hB1 := hid_of hB1
    replace hT1 := hid_of hT1
    clear hah
    go_wp2_with fail
    go_loopw [8, 9] (fun rv jv wr => ∃ (j : Nat) (K : Nat → Nat), jv = .int .i64 (j : Nat) ∧ j ≤ n ∧ CkAt lo wr evs nc j rv K ∧ TabAt lo wr evs n n (.slice oa n oc) G ∧ Below lo w wr) (fun _ jv _ => n - (intOf jv).toNat)
    case atStart => exact ⟨0, _, rfl, Nat.zero_le _, hC1.out, hT1.out, hB1.out⟩
    case round =>
      clear hC1 hT1 hB1
      obtain ⟨wo, hwo⟩ : ∃ wo : World, wo = wr := ⟨_, rfl⟩
      subst hwo
      obtain ⟨j, K, rfl, hjn, hC, hT, hB⟩ := hrel
      have hlw : lo ≤ wo.heap.size := by have := hB.size; have := hlo.out; omega
      obtain ⟨ra, rcap, hrv, -, -, -⟩ := ownsRow_form hC.row
      subst hrv
      by_cases hj : j < n
      · obtain ⟨f, hf⟩ : ∃ f, Hid (evs[j]? = some f) := ⟨evs[j]'(by have := hn.out; omega), List.getElem?_eq_getElem (by have := hn.out; omega)⟩
        obtain ⟨f1, f2⟩ := hcl.out f (List.mem_of_getElem? hf.out)
        obtain ⟨b, o, rfl, -, x0, -, -, -⟩ := (hE.out.keep (hlo.out ▸ hB)) j f hf.out
        obtain ⟨fc, hfc⟩ := Int.eq_ofNat_of_zero_le f1
        rw [hfc] at x0 f2
        have hfn : fc < nc := by omega
        have hmk := run_make_row' (P := Try.prog) 39 3 (.int .i64 0) 8 Try.underlying39 int_info rfl .i64 .i64 nc (by omega) (by omega) wo
        obtain ⟨X1, hX1⟩ : ∃ X1, Hid (wo.alloc (.cells (madeCells #[.int .i64 0] nc) 3) = X1) := ⟨_, rfl⟩
        have hR1 : X1.rowIs wo.heap.size 3 nc (fun _ => .int .i64 0) := by
          rw [← hX1.out]
          exact World.rowIs_made wo _ nc _
        have hB1 : Below wo.heap.size wo X1 := by rw [← hX1.out]; exact (Below.refl _ wo).alloc (Nat.le_refl _) _
        have x1 := stay hB1 x0
        obtain ⟨R, hRs⟩ : ∃ R, Hid (wo.heap.size = R) := ⟨_, rfl⟩
        rw [hRs.out] at hR1 hB1 hmk hlw
        have c1 := hR1.cell hfn
        have z1 := hR1.frozen fc
        obtain ⟨X2, hX2⟩ : ∃ X2, Hid (X1.setCell ⟨R, fc, none⟩ (.int .i64 1) = X2) := ⟨_, rfl⟩
        have hR2 : Hid (X2.rowIs R 3 nc (fun c => .int .i64 (cntR evs j f 0 c : Nat))) := by
          unfold Hid
          rw [← hX2.out]
          refine (hR1.set fc (.int .i64 1)).congr (fun c _ => ?_)
          unfold cntR
          rw [hfc, Int.toNat_natCast]
          by_cases e : c = fc
          · subst e; simp
          · rw [if_neg e, if_neg (fun e' => e e'.symm)]; rfl
        have hB2 : Hid (Below R wo X2) := by unfold Hid; rw [← hX2.out]; exact hB1.setCell (p := ⟨R, fc, none⟩) (Nat.le_refl _) _
        have hclk := hid_of (fun c => cntR_clk hf.out c)
        replace hC := hid_of hC
        replace hT := hid_of hT
        replace hB := hid_of hB
        clear hR1 hB1 x0 f1 f2
        go_upto_region 10 with (rw [hX1.out])
        clear hmk hX1
        go_upto_region 11 with (rw [hX2.out])
        clear hX2 c1 z1 x1
        go_wp2_with fail
        go_loopw [11] (fun iv wr2 => ∃ i : Nat, iv = .int .i64 (i : Nat) ∧ i ≤ j ∧ wr2.rowIs R 3 nc (fun c => .int .i64 (cntR evs j f i c : Nat)) ∧ Below R wo wr2) (fun iv _ => j - (intOf iv).toNat)
        case atStart => exact ⟨0, rfl, Nat.zero_le _, hR2.out, hB2.out⟩
        case round =>
          clear hR2 hB2
          obtain ⟨wr2, hwo⟩ : ∃ wr2 : World, wr2 = wr := ⟨_, rfl⟩
          subst hwo
          obtain ⟨i, rfl, hij, hR3, hB3⟩ := hrel
          have hT3 := hT.out.under (by rw [hRs.out]; exact hB3)
          have hB03 : Below lo w wr2 := hB.out.trans (hB3.mono hlw)
          by_cases hi : i < j
          · obtain ⟨ei, hei⟩ : ∃ ei, Hid (evs[i]? = some ei) := ⟨evs[i]'(by have := hn.out; omega), List.getElem?_eq_getElem (by have := hn.out; omega)⟩
            obtain ⟨e1, e2⟩ := hcl.out ei (List.mem_of_getElem? hei.out)
            obtain ⟨b', o', hbo, -, x0, -, -, -⟩ := (hE.out.keep (hlo.out ▸ hB03)) i ei hei.out
            cases hbo
            obtain ⟨ec, hec⟩ := Int.eq_ofNat_of_zero_le e1
            rw [hec] at x0 e2
            have hecn : ec < nc := by omega
            obtain ⟨g, rfl⟩ := hog (by omega)
            have y0 := ownsRow_cell hT3.row (rowsV_at (G := G) (n := n) hj)
            have y1 := (hT3.each j hj).2.cell (show i < n by omega)
            have c1 := hR3.cell hecn
            have z1 := hR3.frozen ec
            have hle := cntR_le evs j f ec i
            have hin : i < n := by omega
            obtain ⟨r, hr⟩ : ∃ r, Hid (knowB evs j i = r) := ⟨_, rfl⟩
            rw [hr.out] at y1
            obtain ⟨cv, hcv⟩ : ∃ cv, Hid (cntR evs j f i ec = cv) := ⟨_, rfl⟩
            rw [hcv.out] at c1 hle
            have hstep : Hid (∀ c, cntR evs j f (i + 1) c = if r && decide (ec = c) then cntR evs j f i c + 1 else cntR evs j f i c) := fun c => by
              conv => lhs; unfold cntR
              rw [hei.out]
              simp only [hr.out, hec, Int.toNat_natCast]
            cases r with
            | false =>
              replace hR3 := hid_of hR3
              replace hB3 := hid_of hB3
              clear hT3 hB03
              go_wp2_with fail
              go_roundw
              case rel => exact ⟨i + 1, by go_num, by omega, hR3.out.congr (fun c _ => by rw [hstep.out]; simp), hB3.out⟩
              case measure =>
                simp only [intOf]
                omega
            | true =>
              have hset := hid_of ((hR3.set ec (.int .i64 ((cv : Int) + 1))).congr (g := fun c => .int .i64 (cntR evs j f (i + 1) c : Nat)) (fun c _ => by
                rw [hstep.out]
                by_cases e : c = ec
                · subst e
                  rw [if_pos rfl, hcv.out]
                  simp
                · rw [if_neg e]
                  have : ¬ ec = c := fun e' => e e'.symm
                  simp [this]))
              have hbel := hid_of (hB3.setCell (p := ⟨R, ec, none⟩) (Nat.le_refl _) (.int .i64 ((cv : Int) + 1)))
              clear hT3 hB03 hR3 hB3
              go_wp2_with fail
              go_roundw
              case rel => exact ⟨i + 1, by go_num, by omega, hset.out, hbel.out⟩
              case measure =>
                simp only [intOf]
                omega
          · obtain rfl : i = j := by omega
            have hCA := hC.out.under (by rw [hRs.out]; exact hB3)
            have hRA : wr2.rowIs R 3 nc (cnt (clkAt evs i)) := hR3.congr (fun c _ => by unfold cnt; rw [hclk.out c])
            have hlA : lo ≤ wr2.heap.size := Nat.le_trans hlw (by have := hB3.size; have := hRs.out; omega)
            have hrow := hid_of hCA.row
            have hfin := hid_of (fun w0 g c w2 h1 r1 r2 => hCA.more (w0 := w0) (w2 := w2) (g := g) (c := c) hT3 hRA hlw hlA h1 r1 r2)
            have hone : Hid (∀ v ∈ [Value.slice (some ⟨R, 0, none⟩) nc nc], v.oneCell' = true) := fun v hv => by simp at hv; subst hv; rfl
            replace hlA := hid_of hlA
            replace hB03 := hid_of hB03
            clear hCA hRA hR3 hB3 hT3
            go_wp2_with (at_builtin; refine wpList_append_lies _ rfl _ _ 30 rfl lo 39 ri _ 1 24 ints_u hri hri1 hri2 hri3 rfl (by decide) _ i (rowsV K nc i) rfl (hrow.out.alloc _) _ 1 1 [.slice (some ⟨R, 0, none⟩) nc nc] rfl rfl (World.news_of_block (heap_alloc_new wr2 _)) hone.out (by decide) (by unfold maxLen; omega) (by omega) (Nat.le_trans hlA.out (Nat.le_of_lt (World.size_alloc_lt wr2 _))) _ rfl ?_; intro g1 c1 W2 r1 r2 r3 r4; replace r1 := hid_of r1; replace r2 := hid_of r2; clear r3 r4)
            go_roundw
            case rel =>
              obtain ⟨e1, e2, e3⟩ := hfin.out _ _ _ _ ((Below.refl _ wr2).alloc (Nat.le_refl _) _) r1.out r2.out
              exact ⟨i + 1, _, by go_num, by omega, e1, e2, hB03.out.trans e3⟩
            case measure =>
              simp only [intOf]
              omega
      · obtain rfl : j = n := by omega
        go_wp2_with fail
        exact bodyPost_ret (v := .tuple #[.slice ra j rcap, .int .i64 0]) (by simp [results, Try.results12, go_sem]) rfl (hpost.out _ _ hB ⟨_, K, rfl, hC⟩)
  · have hne : (chk evs clients != 0) = true := by simp [h0]
    have hfin := hid_of (show RefClocks w evs clients (.returned (.tuple #[.slice none 0 0, .int .i64 (chk evs clients)])) w from ⟨Below.refl _ w, .inl ⟨h0, rfl⟩⟩)
    go_enter Try.func12, Try.ntmps12
    go_wp2_with fail
    refine hck.out.mono ?_
    rintro e Z ⟨rfl, hz⟩
    obtain rfl : w = Z := hz.symm
    clear hz hck
    go_wp2_with fail
    exact bodyPost_ret (v := .tuple #[.slice none 0 0, .int .i64 (chk evs clients)]) (by simp [results, Try.results12, go_sem]) rfl hfin.out
end Go.Proofs.Ytdgdfpgekccibab
