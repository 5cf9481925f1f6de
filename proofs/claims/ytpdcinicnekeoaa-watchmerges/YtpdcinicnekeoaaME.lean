import Derived.Test.YtpdcinicnekeoaaMD
import Derived.Test.YtpdcinicnekeoaaPE
import Derived.Deep.OwnRows
/-! watch: the document's Merge. -/
namespace Go.Proofs.Ytpdcinicnekeoaa
open Go Go.RowKit Go.Watch
theorem int_info : (Try.prog.info? 3).map (fun i => (i.zero, i.size, i.bytes)) = some (some (.int .i64 0), 1, 8) := by kernel_rfl
/-- Several lists, how far each is read, and what is done. -/
structure RM (w0 w : World) (ls : List (List Chg)) (L : Nat) (f : Nat → Nat) (la : Option Addr) (n lc : Nat) (l : List Chg) : Prop where
  bel : Below w0.heap.size w0 w
  at' : w.rowIs w0.heap.size 3 L (fun i => .int .i64 ((f i : Nat) : Int))
  fl : ∀ (j : Nat) l', ls[j]? = some l' → f j ≤ l'.length
  eq : l ++ kM (remL ls f) = kM ls
  ln : l.length = n
  row : Rw w (w0.heap.size + 1) 4 la n lc (flatC l)
  lb : ∀ b, blkOf la b → w0.heap.size + 1 ≤ b
theorem RM.below {w0 w w' : World} {ls : List (List Chg)} {L : Nat} {f : Nat → Nat} {la : Option Addr} {n lc : Nat} {l : List Chg} (h : RM w0 w ls L f la n lc l) (hb : Below w.heap.size w w') : RM w0 w' ls L f la n lc l :=
  ⟨h.bel.trans (hb.mono h.bel.size), h.at'.of_block (hb.block _ h.at'.lt), h.fl, h.eq, h.ln, h.row.below hb, h.lb⟩
theorem RM.mid {w0 w W2 W3 : World} {ls : List (List Chg)} {L : Nat} {f : Nat → Nat} {la : Option Addr} {n lc : Nat} {l : List Chg} {g o c : Nat} {ys : List Value} (h : RM w0 w ls L f la n lc l) (hb : Below w.heap.size w W2) (hA : Appd W2 (w0.heap.size + 1) 4 la n 1 lc ys g o c W3) :
    W3.rowIs w0.heap.size 3 L (fun i => .int .i64 ((f i : Nat) : Int)) ∧ Below w0.heap.size w0 W3 := by
  have hlt := h.at'.lt
  have hsz := hb.size
  refine ⟨h.at'.of_block ((hA.fr.block _ (by omega) (fun e => by have := h.lb _ e.1; omega)).trans (hb.block _ hlt)), hA.below (h.bel.trans (hb.mono h.bel.size)) (Nat.le_refl _) (fun b hbk => by have := h.lb _ hbk; omega)⟩
theorem RM.step {w0 w W2 W3 : World} {ls : List (List Chg)} {L : Nat} {f : Nat → Nat} {la : Option Addr} {n lc : Nat} {l : List Chg} {g o c : Nat} {ch : Chg} {q : Nat} {lq : List Chg} (h : RM w0 w ls L f la n lc l) (hb : Below w.heap.size w W2) (hA : Appd W2 (w0.heap.size + 1) 4 la n 1 lc (flatC l ++ chgCs ch) g o c W3)
    (hq : ls[q]? = some lq) (hlq : f q < lq.length) (hB : kM (remL ls f) = ch :: kM ((remL ls f).set q (lq.drop (f q + 1)))) :
    RM w0 (W3.setCell ⟨w0.heap.size, q, none⟩ (.int .i64 ((f q + 1 : Nat) : Int))) ls L (upd f q) (some ⟨g, o, none⟩) (n + 1) c (l ++ [ch]) := by
  obtain ⟨h1, h2⟩ := h.mid hb hA
  refine ⟨h2.setCell (Nat.le_refl _) _, (h1.set q _).congr (fun i _ => ?_), fun j l' hj => ?_, ?_, by simp [h.ln], ?_, ?_⟩
  · unfold upd
    by_cases e : i = q
    · subst e; simp
    · simp [e]
  · unfold upd
    split
    · subst j; rw [hq] at hj; cases hj; exact hlq
    · exact h.fl j l' hj
  · rw [← remL_set hq, ← h.eq, hB]
    simp
  · rw [flatC_snoc]
    refine hA.row.keep (by simp [World.setCell]) (fun b hbk hl => Below.heap_setCell _ _ _ _ ?_)
    obtain ⟨o2, s2, e2⟩ := hbk
    cases e2
    show g ≠ w0.heap.size
    have hlt := h.at'.lt
    have hsz := hb.size
    rcases hA.at' with ⟨e, -⟩ | ⟨e, -⟩
    · have := h.lb g ⟨o, none, e⟩; omega
    · omega
  · intro b hbk
    obtain ⟨o2, s2, e2⟩ := hbk
    cases e2
    have hlt := h.at'.lt
    have hsz := hb.size
    rcases hA.at' with ⟨e, -⟩ | ⟨e, -⟩
    · exact h.lb g ⟨o, none, e⟩
    · omega
/-- One list's head, in memory. -/
theorem RM.head {w0 w : World} {ls : List (List Chg)} {L : Nat} {f : Nat → Nat} {la : Option Addr} {n lc : Nat} {l : List Chg} {b o q : Nat} {lq : List Chg} (h : RM w0 w ls L f la n lc l) (hR : RowsAt w0 (some ⟨b, o, none⟩) ls) (hq : ls[q]? = some lq) : ∃ xa xc, w.cell? ⟨b, o + q, none⟩ = some (.slice xa lq.length xc) ∧ ChgsAt (fun _ => True) w xa lq := by
  obtain ⟨b', o', xa, xc, e, h2, h3, -⟩ := hR q lq hq
  cases e
  exact ⟨xa, xc, stay h.bel h2, h3.below h.bel⟩
theorem drop_cons' {l : List Chg} {k : Nat} (h : k < l.length) : l.drop k = l[k] :: l.drop (k + 1) := List.drop_eq_getElem_cons h
theorem RM.len_lt {w0 w : World} {ls : List (List Chg)} {L : Nat} {f : Nat → Nat} {la : Option Addr} {n lc : Nat} {l : List Chg} (h : RM w0 w ls L f la n lc l) {c : Chg} {t : List Chg} (he : kM (remL ls f) = c :: t) : n < totL ls := by
  have h1 := h.eq
  rw [he] at h1
  have h2 := congrArg List.length h1
  rw [kM_len, List.length_append, List.length_cons, h.ln] at h2
  omega
theorem le_sum {a : Nat} : {l : List Nat} → a ∈ l → a ≤ l.sum
  | b :: l, h => by
    rw [List.sum_cons]
    rcases List.mem_cons.1 h with rfl | h
    · omega
    · have := le_sum h; omega
theorem remL_inv {ls : List (List Chg)} {f : Nat → Nat} {q : Nat} {c : Chg} {r : List Chg} (h : (remL ls f)[q]? = some (c :: r)) : ∃ lq, ls[q]? = some lq ∧ lq[f q]? = some c ∧ r = lq.drop (f q + 1) := by
  rw [remL_at] at h
  cases hq : ls[q]? with
  | none => rw [hq] at h; cases h
  | some lq =>
    rw [hq] at h
    have h1 : lq.drop (f q) = c :: r := Option.some.inj h
    have h2 : f q < lq.length := by
      rcases Nat.lt_or_ge (f q) lq.length with h' | h'
      · exact h'
      · rw [List.drop_eq_nil_of_le h'] at h1; cases h1
    rw [List.drop_eq_getElem_cons h2] at h1
    obtain ⟨e1, e2⟩ := List.cons.inj h1
    exact ⟨lq, rfl, by rw [List.getElem?_eq_getElem h2, e1], e2.symm⟩
set_option maxHeartbeats 8000000 in
set_option maxRecDepth 100000 in
theorem rmerge_any {a : Option Addr} {ls : List (List Chg)} {cap : Nat} {w : World} (hR : RowsAt w a ls) (hL : ls.length ≤ 100) (hN : totL ls ≤ 1048576) :
    Calls Try.prog 18 #[.slice a ls.length cap] w (MPost w (kM ls)) := by
  obtain ⟨ri, hri, hri1, hri2, hri3⟩ := chg_info
  obtain ⟨L, hLe⟩ : ∃ L, Hid (ls.length = L) := ⟨_, rfl⟩
  rw [hLe.out] at hL ⊢
  have hmk := fun w => run_make_row' (P := Try.prog) 67 3 (.int .i64 0) 8 Try.underlying67 int_info rfl .i64 .i64 L (by omega) (by omega) w
  obtain ⟨W1, hW1⟩ : ∃ W1, Hid (w.alloc (.cells (madeCells #[.int .i64 0] L) 3) = W1) := ⟨_, rfl⟩
  have hst : Hid (RM w W1 ls L (fun _ => 0) none 0 0 []) := by
    have h1 := World.rowIs_made w (.int .i64 0) L 3
    rw [hW1.out] at h1
    exact ⟨by rw [← hW1.out]; exact (Below.refl _ w).alloc (Nat.le_refl _) _, h1, fun j l' _ => Nat.zero_le _, by rw [remL_zero]; rfl, rfl, Rw.nil _ _ _ _, fun b hb => by obtain ⟨o2, s2, e2⟩ := hb; cases e2⟩
  obtain ⟨T, hT⟩ : ∃ T, Hid (totL ls = T) := ⟨_, rfl⟩
  have hTb : T ≤ 1048576 := by rw [← hT.out]; exact hN
  replace hR := hid_of hR
  go_enter Try.func18, Try.ntmps18
  go_wp2_with (rw [hW1.out])
  clear hmk hW1
  go_loopw [4] (fun sv wr => ∃ (f : Nat → Nat) (la : Option Addr) (n lc : Nat) (l : List Chg), sv = .slice la n lc ∧ Hid (RM w wr ls L f la n lc l)) (fun sv _ => T - sliceLen sv)
  case atStart => exact ⟨_, _, _, _, _, rfl, hst⟩
  case round =>
    obtain ⟨f, la, n, lc, l, rfl, hV⟩ := hrel
    clear hst
    go_wp2_with fail
    go_loopw [5, 6] (fun bv iv wq => ∃ (i : Nat) (b : Int), iv = .int .i64 (i : Nat) ∧ bv = .int .i64 b ∧ i ≤ L ∧ Hid (RM w wq ls L f la n lc l) ∧ Hid (BB (remL ls f) i b)) (fun _ iv _ => L - (intOf iv).toNat)
    case atStart => exact ⟨0, -1, rfl, rfl, Nat.zero_le _, hV, .inl ⟨rfl, fun j l hj => by omega⟩⟩
    case round =>
      clear hV
      obtain ⟨i, bi, rfl, rfl, hi, hV, hbb⟩ := hrel
      by_cases hlt : i < L
      · obtain ⟨li, hli⟩ : ∃ li, Hid (ls[i]? = some li) := ⟨_, List.getElem?_eq_getElem (by rw [hLe.out]; exact hlt)⟩
        obtain ⟨b, o, _, _, rfl, -⟩ := hR.out i li hli.out
        obtain ⟨xa, xc, c2, hx⟩ := hV.out.head hR.out hli.out
        have c1 : wr.cell? ⟨w.heap.size, i, none⟩ = some (.int .i64 ((f i : Nat) : Int)) := hV.out.at'.cell hlt
        obtain ⟨p, hp⟩ : ∃ p, Hid (f i = p) := ⟨_, rfl⟩
        have hrem : Hid ((remL ls f)[i]? = some (li.drop p)) := by rw [remL_at, hli.out, ← hp.out]; rfl
        obtain ⟨m, hm⟩ : ∃ m, Hid (li.length = m) := ⟨_, rfl⟩
        have hpm : p ≤ m := by rw [← hp.out, ← hm.out]; exact hV.out.fl i li hli.out
        rw [hp.out] at c1
        rw [hm.out] at c2
        have hi1 : (0 : Int) ≤ (i : Int) := by omega
        have hi2 : (i : Int) < (L : Int) := by omega
        by_cases hpl : p < m
        · obtain ⟨ci, hci⟩ : ∃ c, Hid (li[p]? = some c) := ⟨_, List.getElem?_eq_getElem (by rw [hm.out]; exact hpl)⟩
          have hrem2 : Hid ((remL ls f)[i]? = some (ci :: li.drop (p + 1))) := by
            rw [hrem.out, List.drop_eq_getElem_cons (by rw [hm.out]; exact hpl)]
            have := (List.getElem?_eq_some_iff.1 hci.out).2
            rw [this]
            exact rfl
          obtain ⟨xb, xo, rfl, -, hxc⟩ := hx p ci hci.out
          have c3 := hxc.st
          obtain ⟨si, hsi⟩ : ∃ s, Hid (ci.st = s) := ⟨_, rfl⟩
          rw [hsi.out] at c3
          have hp1 : (0 : Int) ≤ (p : Int) := by omega
          have hp2 : (p : Int) < (m : Int) := by omega
          clear hxc hx hci
          rcases hbb.out with ⟨rfl, hno⟩ | ⟨q, cq, rq, rfl, hbest⟩
          · have hnx := hid_of (BB.first hno hrem2.out)
            clear hno hbb c3 hrem hrem2
            have hm1 : (-1 : Int) < 0 := by decide
            go_upto_region 7 with fail
            go_quiet (fail)
            have hV2 := hid_of (hV.out.below (below_drewN (Below.refl _ wr) nq))
            clear c1 c2
            go_wp2_with fail
            go_roundw
            case rel => exact ⟨i + 1, _, by go_num, rfl, by omega, hV2, hnx⟩
            case measure =>
              simp only [intOf]
              omega
          · obtain ⟨lq, hlq, hcq, hrq⟩ := remL_inv hbest.at'
            have hqi := hbest.lt
            obtain ⟨ya, yc, e2, hy⟩ := hV.out.head hR.out hlq
            have e1 : wr.cell? ⟨w.heap.size, q, none⟩ = some (.int .i64 ((f q : Nat) : Int)) := hV.out.at'.cell (by omega)
            obtain ⟨pq, hpq⟩ : ∃ p, Hid (f q = p) := ⟨_, rfl⟩
            obtain ⟨mq, hmq⟩ : ∃ m, Hid (lq.length = m) := ⟨_, rfl⟩
            rw [hpq.out] at e1 hcq
            rw [hmq.out] at e2
            have hq2 : (pq : Int) < (mq : Int) := by
              have := (List.getElem?_eq_some_iff.1 hcq).1
              rw [hmq.out] at this
              omega
            have hq1 : (0 : Int) ≤ (pq : Int) := by omega
            have hq3 : (0 : Int) ≤ (q : Int) := by omega
            have hq4 : (q : Int) < (L : Int) := by omega
            have hq5 : ¬ (q : Int) < 0 := by omega
            obtain ⟨yb, yo, rfl, -, hyc⟩ := hy pq cq hcq
            have e3 := hyc.st
            obtain ⟨sq, hsq⟩ : ∃ s, Hid (cq.st = s) := ⟨_, rfl⟩
            rw [hsq.out] at e3
            clear hyc hy hcq hlq hrq hbb
            by_cases hss : si < sq
            · have hnx := hid_of (BB.better hbest hrem2.out (by rw [hsi.out, hsq.out]; exact hss))
              clear hbest hrem hrem2
              go_upto_region 7 with fail
              go_quiet (fail)
              have hV2 := hid_of (hV.out.below (below_drewN (Below.refl _ wr) nq))
              clear c1 c2 c3 e1 e2 e3
              go_wp2_with fail
              go_roundw
              case rel => exact ⟨i + 1, _, by go_num, rfl, by omega, hV2, hnx⟩
              case measure =>
                simp only [intOf]
                omega
            · have hnx := hid_of (BB.same hbest hrem2.out (by rw [hsi.out, hsq.out]; exact hss))
              clear hbest hrem hrem2
              go_upto_region 7 with fail
              go_quiet (fail)
              have hV2 := hid_of (hV.out.below (below_drewN (Below.refl _ wr) nq))
              clear c1 c2 c3 e1 e2 e3
              go_wp2_with fail
              go_roundw
              case rel => exact ⟨i + 1, _, by go_num, rfl, by omega, hV2, hnx⟩
              case measure =>
                simp only [intOf]
                omega
        · have hnx := hid_of (hbb.out.skip (by rw [hrem.out, List.drop_eq_nil_of_le (by rw [hm.out]; omega)]))
          have hp2 : ¬ (p : Int) < (m : Int) := by omega
          clear hrem hbb hx
          go_upto_region 7 with fail
          go_quiet (fail)
          have hV2 := hid_of (hV.out.below (below_drewN (Below.refl _ wr) nq))
          clear c1 c2
          go_wp2_with fail
          go_roundw
          case rel => exact ⟨i + 1, _, by go_num, rfl, by omega, hV2, hnx⟩
          case measure =>
            simp only [intOf]
            omega
      · obtain rfl : i = L := by omega
        rcases hbb.out with ⟨rfl, hno⟩ | ⟨q, cq, rq, rfl, hbest⟩
        · have hl : Hid (l = kM ls) := by
            have h1 := hV.out.eq
            rw [NoneB.done (by rw [remL_len, hLe.out]; exact hno)] at h1
            show _ = _
            rw [← h1]
            simp
          have hfin : Hid (MPost w (kM ls) (.returned (.slice la n lc)) wr) := by
            rw [← hl.out]
            exact ⟨hV.out.bel, la, lc, by rw [hV.out.ln], by rw [hV.out.ln]; exact hV.out.row.lower (by omega)⟩
          clear hno hbb
          go_wp2_with fail
          go_ret
          exact hfin.out
        · obtain ⟨lq, hlq, hcq, hrq⟩ := remL_inv hbest.at'
          have hqi := hbest.lt
          have hkM : kM (remL ls f) = cq :: kM ((remL ls f).set q (lq.drop (f q + 1))) := by
            rw [← hrq]
            exact Best.done (by rw [remL_len, hLe.out]; exact hbest)
          have hnT : n < T := by rw [← hT.out]; exact hV.out.len_lt hkM
          have hlen : f q < lq.length := (List.getElem?_eq_some_iff.1 hcq).1
          obtain ⟨b, o, ya, yc, rfl, g2, gy, -⟩ := hR.out q lq hlq
          have e2 := stay hV.out.bel g2
          have e1 : wr.cell? ⟨w.heap.size, q, none⟩ = some (.int .i64 ((f q : Nat) : Int)) := hV.out.at'.cell (by omega)
          obtain ⟨yb, yo, rfl, -, hy0⟩ := gy (f q) cq hcq
          have hyc := hy0.keep (hV.out.bel.block _ hy0.lt)
          obtain ⟨d0, d1, d2, d3⟩ := hyc
          have hfb : f q ≤ 1048576 := by
            have h1 := hV.out.fl q lq hlq
            have h2 : lq.length ≤ totL ls := by
              unfold totL
              exact le_sum (List.mem_map.2 ⟨lq, List.mem_of_getElem? hlq, rfl⟩)
            omega
          have hstep := hid_of (fun W2 W3 g2 o2 c2 hB2 hA => hV.out.step (W2 := W2) (W3 := W3) (g := g2) (o := o2) (c := c2) hB2 hA hlq hlen hkM)
          have hmid := hid_of (fun W2 W3 g2 o2 c2 ys hB2 hA => hV.out.mid (W2 := W2) (W3 := W3) (g := g2) (o := o2) (c := c2) (ys := ys) hB2 hA)
          obtain ⟨pq, hpq⟩ : ∃ p, Hid (f q = p) := ⟨_, rfl⟩
          obtain ⟨mq, hmq⟩ : ∃ m, Hid (lq.length = m) := ⟨_, rfl⟩
          rw [hpq.out] at e1 hlen d0 d1 d2 d3 hfb hstep hy0
          rw [hmq.out] at e2 hlen g2
          have hq1 : (0 : Int) ≤ (pq : Int) := by omega
          have hq2 : (pq : Int) < (mq : Int) := by omega
          have hq3 : (0 : Int) ≤ (q : Int) := by omega
          have hq4 : (q : Int) < (i : Int) := by omega
          have hq5 : ¬ (q : Int) < 0 := by omega
          obtain ⟨cst, cnm, cid, ckd⟩ := cq
          simp only at d0 d1 d2 d3
          have hBx : Below wr.heap.size wr ((wr.alloc (.cells #[.int .i64 cst, .string cnm, .string cid, .int .i64 ckd] 30)).drew) := below_drew ((Below.refl _ wr).alloc (Nat.le_refl _) _)
          have hsrc : Hid (Src Try.prog 4 23 (.slice (some ⟨wr.heap.size, 0, none⟩) 1 1) 1 (chgCs ⟨cst, cnm, cid, ckd⟩) ((wr.alloc (.cells #[.int .i64 cst, .string cnm, .string cid, .int .i64 ckd] 30)).drew)) := Src.of_block (w := (wr.alloc (.cells #[.int .i64 cst, .string cnm, .string cid, .int .i64 ckd] 30)).drew) (size := 4) (cs := #[.int .i64 cst, .string cnm, .string cid, .int .i64 ckd]) Try.underlying23 (by exact heap_alloc_new wr _) 1 1 rfl (fun u hu => flatC_one [⟨cst, cnm, cid, ckd⟩] u (by simpa [flatC, chgCs] using hu))
          have z0 := hid_of (hV.out.row.below hBx)
          have z6 : Hid (n + 1 ≤ maxLen ∧ (n + 1) * 48 ≤ 140737488355328 ∧ w.heap.size + 1 ≤ ((wr.alloc (.cells #[.int .i64 cst, .string cnm, .string cid, .int .i64 ckd] 30)).drew).heap.size) := by
            have h1 := hBx.size
            have h2 := hV.out.at'.lt
            unfold maxLen
            exact ⟨by omega, by omega, by omega⟩
          replace hstep := hid_of (fun W3 g2 o2 c2 => hstep.out _ W3 g2 o2 c2 hBx)
          replace hmid := hid_of (fun W3 g2 o2 c2 ys => hmid.out _ W3 g2 o2 c2 ys hBx)
          have hw2 : Hid (∀ W3, Below w.heap.size w W3 → W3.rowIs w.heap.size 3 i (fun i => .int .i64 ((f i : Nat) : Int)) → W3.cell? ⟨w.heap.size, q, none⟩ = some (.int .i64 (pq : Int)) ∧ W3.frozen? ⟨w.heap.size, q, none⟩ = false ∧ W3.cell? ⟨b, o + q, none⟩ = some (.slice (some ⟨yb, yo, none⟩) mq yc) ∧ W3.cell? ⟨yb, yo + pq * 4, none⟩ = some (.int .i64 cst) ∧ W3.cell? ⟨yb, yo + pq * 4 + 1, none⟩ = some (.string cnm) ∧ W3.cell? ⟨yb, yo + pq * 4 + 2, none⟩ = some (.string cid) ∧ W3.cell? ⟨yb, yo + pq * 4 + 3, none⟩ = some (.int .i64 ckd)) := fun W3 hB3 hr3 => by
            have h1 := hr3.cell hqi
            simp only [hpq.out] at h1
            obtain ⟨q0, q1, q2, q3⟩ := hy0.keep (hB3.block _ hy0.lt)
            exact ⟨h1, hr3.frozen q, stay hB3 g2, q0, q1, q2, q3⟩
          clear hBx g2 gy hy0 hcq hlq hrq hkM hbest hbb hV
          go_upto_region 11 with fail
          go_region_held3 (fun w' => w'.cell? ⟨w.heap.size, q, none⟩ = some (.int .i64 (pq : Int)) ∧ w'.cell? ⟨b, o + q, none⟩ = some (.slice (some ⟨yb, yo, none⟩) mq yc) ∧ w'.cell? ⟨yb, yo + pq * 4, none⟩ = some (.int .i64 cst) ∧ w'.cell? ⟨yb, yo + pq * 4 + 1, none⟩ = some (.string cnm) ∧ w'.cell? ⟨yb, yo + pq * 4 + 2, none⟩ = some (.string cid) ∧ w'.cell? ⟨yb, yo + pq * 4 + 3, none⟩ = some (.int .i64 ckd)) (first | exact ⟨hc3.1, hc3.2.2⟩ | go_keep) ((refine step_append_rw _ (by rfl) _ _ 23 (by rfl) 30 ri _ 4 48 Try.underlying23 hri hri1 hri2 hri3 (by rfl) (w.heap.size + 1) la n lc (flatC l) (by rfl) z0.out.len z0.out.le z0.out.mx z0.out.rd _ (by rfl) 1 (chgCs ⟨cst, cnm, cid, ckd⟩) hsrc.out (fun _ => z0.out) (by decide) z6.out.1 z6.out.2.1 z6.out.2.2 ?_; intro g2 o2 c2 W3 hA; have hV3 := hid_of (hstep.out W3 g2 o2 c2 hA); have hc3 := hw2.out W3 (hmid.out W3 g2 o2 c2 _ hA).2 (hmid.out W3 g2 o2 c2 _ hA).1; clear hA))
          rename_i hHeld
          obtain ⟨c1, f1, -⟩ := hc3
          clear hHeld hstep hsrc z0 hmid hw2 e1 e2 d0 d1 d2 d3
          go_wp2_with fail
          go_roundw
          case rel => exact ⟨_, _, _, _, _, rfl, hV3⟩
          case measure =>
            simp only [sliceLen]
            omega
end Go.Proofs.Ytpdcinicnekeoaa
