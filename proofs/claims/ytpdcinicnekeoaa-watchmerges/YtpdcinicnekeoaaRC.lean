import Derived.Test.YtpdcinicnekeoaaRB
/-! watch: the document's After. -/
namespace Go.Proofs.Ytpdcinicnekeoaa
open Go Go.RowKit Go.Watch
structure RAPost (w : World) (told : List Chg) (up err : Int) (e : Ending) (w' : World) : Prop where
  bel : Below w.heap.size w w'
  row : ∃ xa xc, e = .returned (.tuple #[.slice xa told.length xc, .int .i64 up, .int .i64 err]) ∧ ChgsAt (fun b => w.heap.size ≤ b) w' xa told ∧ told.length ≤ xc ∧ xc ≤ 9223372036854775807
def askP (af : Int) (inn : ByteArray) (c : Chg) : Bool := decide (af < c.st) && pickB inn c
theorem asked_eq (l : List Chg) (af : Int) (inn : ByteArray) : asked l af inn = l.filter (askP af inn) := by
  unfold asked askP
  rw [List.filter_filter]
  congr 1
  funext c
  exact Bool.and_comm _ _
set_option maxHeartbeats 1000000 in
theorem rafter_gone {k : Nat} {g : Lg} {a : Option Addr} {cap : Nat} {w : World} (af lim : Int) (inn : ByteArray) (hg : af < g.hor) :
    Calls Try.prog 31 #[refV k a g.cs.length cap g.hor (lastSt g.cs), .int .i64 af, .int .i64 lim, .string inn] w (RAPost w (toldT g af lim inn) (uptoT g af lim inn) (errT g af)) := by
  have e1 : toldT g af lim inn = [] := if_pos hg
  have e2 : uptoT g af lim inn = 0 := if_pos hg
  have e3 : errT g af = 180 := if_pos hg
  rw [e1, e2, e3]
  clear e1 e2 e3
  have hpost : Hid (∀ w', Below w.heap.size w w' → RAPost w [] 0 180 (.returned (.tuple #[.slice none 0 0, .int .i64 0, .int .i64 180])) w') := fun w' hb => ⟨hb, none, 0, rfl, ChgsAt.nil, Nat.le_refl _, by omega⟩
  unfold refV
  obtain ⟨L, hL⟩ : ∃ L, Hid (g.cs.length = L) := ⟨_, rfl⟩
  obtain ⟨x, hx⟩ : ∃ x, Hid (lastSt g.cs = x) := ⟨_, rfl⟩
  rw [hL.out, hx.out]
  go_enter Try.func31, Try.ntmps31
  go_wp2_with fail
  go_ret3
  exact hpost.out _ ((Below.refl _ w).alloc (Nat.le_refl _) _)
/-- The document's After under way. -/
structure RT (w0 w : World) (k : Int) (a : Option Addr) (n cap : Nat) (hor last : Int) (a' : Option Addr) (n' c' : Nat) (l : List Chg) : Prop where
  bel : Below w0.heap.size w0 w
  box : RBox w w0.heap.size k a n cap hor last
  row : Rw w (w0.heap.size + 1) 4 a' n' c' (flatC l)
  len : l.length = n'
  sz : w0.heap.size + 1 ≤ w.heap.size
theorem RT.more {w0 wr W2 W3 : World} {k : Int} {a : Option Addr} {n cap : Nat} {hor last : Int} {a' : Option Addr} {n' c' : Nat} {l : List Chg} {c : Chg} {g o c2 : Nat} (h : RT w0 wr k a n cap hor last a' n' c' l) (hb : Below wr.heap.size wr W2) (hA : Appd W2 (w0.heap.size + 1) 4 a' n' 1 c' (flatC l ++ chgCs c) g o c2 W3) :
    RT w0 W3 k a n cap hor last (some ⟨g, o, none⟩) (n' + 1) c2 (l ++ [c]) := by
  have hb2 : Below w0.heap.size w0 W2 := h.bel.trans (hb.mono h.bel.size)
  have hsz := h.sz
  have hs2 := hb.size
  have hfar : ∀ q, n' + 1 ≤ c' → blkOf a' q → w0.heap.size + 1 ≤ q := fun q h1 hq => by
    rcases h.row.pt with h0 | ⟨b', o', e, h2, -⟩
    · omega
    · obtain ⟨o2, s2, e2⟩ := hq
      rw [e] at e2
      cases e2
      exact h2
  have keep : ∀ q, q < w0.heap.size + 1 → W3.heap[q]? = W2.heap[q]? := fun q hq => hA.fr.block q (by omega) (fun e => by have := hfar q e.2 e.1; omega)
  exact ⟨⟨hA.fr.os.trans hb2.os, hA.fr.tape.trans hb2.tape, hA.fr.output.trans hb2.output, Nat.le_trans hb2.size hA.fr.size, fun q hq => (keep q (by omega)).trans (hb2.block q hq)⟩, h.box.keep ((keep _ (by omega)).trans (hb.block _ (by omega))), by rw [flatC_snoc]; exact hA.row, by simp [h.len], Nat.le_trans (Nat.le_trans hsz hs2) hA.fr.size⟩
theorem RT.below {w0 w w' : World} {k : Int} {a : Option Addr} {n cap : Nat} {hor last : Int} {a' : Option Addr} {n' c' : Nat} {l : List Chg} (h : RT w0 w k a n cap hor last a' n' c' l) (hb : Below w.heap.size w w') : RT w0 w' k a n cap hor last a' n' c' l := by
  have hsz := h.sz
  exact ⟨h.bel.trans (hb.mono h.bel.size), h.box.keep (hb.block _ (by omega)), h.row.below hb, h.len, Nat.le_trans hsz hb.size⟩
set_option maxHeartbeats 8000000 in
set_option maxRecDepth 100000 in
theorem rafter_has {S : Nat → Prop} {k : Nat} {g : Lg} {a : Option Addr} {cap : Nat} {w : World} (h : ChgsAt S w a g.cs) (hok : g.Ok k) (hk2 : k ≤ 4096) (af lim : Int) (inn : ByteArray) (hg : ¬ af < g.hor) :
    Calls Try.prog 31 #[refV k a g.cs.length cap g.hor (lastSt g.cs), .int .i64 af, .int .i64 lim, .string inn] w (RAPost w (toldT g af lim inn) (uptoT g af lim inn) (errT g af)) := by
  obtain ⟨ri, hri, hri1, hri2, hri3⟩ := chg_info
  have e1 : toldT g af lim inn = (asked g.cs af inn).take (fit (asked g.cs af inn) lim) := if_neg hg
  have e2 : uptoT g af lim inn = if fit (asked g.cs af inn) lim < (asked g.cs af inn).length then lastSt ((asked g.cs af inn).take (fit (asked g.cs af inn) lim)) else max af (lastSt g.cs) := if_neg hg
  have e3 : errT g af = 0 := if_neg hg
  rw [e1, e2, e3]
  clear e1 e2 e3
  have hlen := hok.len
  obtain ⟨x, hx⟩ : ∃ x, Hid (lastSt g.cs = x) := ⟨_, rfl⟩
  obtain ⟨L, hL⟩ : ∃ L, Hid (g.cs.length = L) := ⟨_, rfl⟩
  obtain ⟨en, hen⟩ : ∃ en, Hid (max af x = en) := ⟨_, rfl⟩
  rw [hx.out, hL.out, hen.out]
  rw [hL.out] at hlen
  have hqr : Hid (Rise (asked g.cs af inn)) := asked_rise hok.rise af inn
  have hqe : Hid (g.cs.filter (askP af inn) = asked g.cs af inn) := (asked_eq _ _ _).symm
  obtain ⟨qs, hqs⟩ : ∃ qs, Hid (asked g.cs af inn = qs) := ⟨_, rfl⟩
  have hql : qs.length ≤ 4096 := by rw [← hqs.out]; have := asked_len g.cs af inn; have := hL.out; omega
  rw [hqs.out] at hqr hqe ⊢
  obtain ⟨f, hf⟩ : ∃ f, Hid (fit qs lim = f) := ⟨_, rfl⟩
  obtain ⟨up, hupe⟩ : ∃ up, Hid ((if f < qs.length then lastSt (qs.take f) else en) = up) := ⟨_, rfl⟩
  rw [hf.out, hupe.out]
  have hpost : Hid (∀ xa xc w', Below w.heap.size w w' → ChgsAt (fun b => w.heap.size ≤ b) w' xa (qs.take f) → (qs.take f).length ≤ xc → xc ≤ 9223372036854775807 → RAPost w (qs.take f) up 0 (.returned (.tuple #[.slice xa (qs.take f).length xc, .int .i64 up, .int .i64 0])) w') := fun xa xc w' h1 h2 h3 h4 => ⟨h1, xa, xc, rfl, h2, h3, h4⟩
  obtain ⟨told, htold⟩ : ∃ told, Hid (qs.take f = told) := ⟨_, rfl⟩
  rw [htold.out] at hpost ⊢
  obtain ⟨W1, hW1⟩ : ∃ W1, Hid (w.alloc (.cells #[.int .i64 k, .slice a L cap, .int .i64 g.hor, .int .i64 x] 48) = W1) := ⟨_, rfl⟩
  have hB1 : Below w.heap.size w W1 := by rw [← hW1.out]; exact (Below.refl _ w).alloc (Nat.le_refl _) _
  have hx0 : RBox W1 w.heap.size k a L cap g.hor x := by
    refine RBox.mk' (t := 48) ?_
    rw [← hW1.out]
    exact heap_alloc_new w _
  have hT0 : Hid (RT w W1 k a L cap g.hor x none 0 0 []) := ⟨hB1, hx0, Rw.nil _ _ _ _, rfl, by rw [← hW1.out]; simp⟩
  have c2 := hx0.c2
  have c3 := hx0.c3
  replace h := hid_of h
  replace hok := hid_of hok
  clear hx0 hB1
  unfold refV
  go_enter Try.func31, Try.ntmps31
  go_upto_if 24 with (rw [hW1.out])
  clear hW1
  go_cut [11] from 16 (fun s11 wx => s11 = .int .i64 en ∧ wx = W1)
  case first =>
    by_cases hax : af < x
    · have hee : Hid (en = x) := by have := hen.out; show _ = _; omega
      go_wp2_with fail
      go_meet
      exact ⟨by rw [hee.out], rfl⟩
    · have hee : Hid (en = af) := by have := hen.out; show _ = _; omega
      go_wp2_with fail
      go_meet
      exact ⟨by rw [hee.out], rfl⟩
  case rest =>
    obtain ⟨rfl, hwc⟩ := hcut
    subst hwc
    clear c2 c3
    go_wp2_with fail
    go_loopw [12, 13] (fun sv iv wr => ∃ (i : Nat) (a' : Option Addr) (n' c' : Nat), iv = .int .i64 (i : Nat) ∧ sv = .slice a' n' c' ∧ i ≤ L ∧ Hid (RT w wr k a L cap g.hor x a' n' c' ((g.cs.take i).filter (askP af inn)))) (fun _ iv _ => L - (intOf iv).toNat)
    case atStart => exact ⟨0, none, 0, 0, rfl, rfl, Nat.zero_le _, hT0⟩
    case round =>
      clear hT0
      obtain ⟨i, a', n', c', rfl, rfl, hin, hT⟩ := hrel
      have c1 := hT.out.box.c1
      by_cases hi : i < L
      · obtain ⟨⟨cst, cnm, cid, ckd⟩, hce⟩ : ∃ c, g.cs[i]? = some c := ⟨_, List.getElem?_eq_getElem (by rw [hL.out]; exact hi)⟩
        obtain ⟨b2, o2, rfl, -, hcc⟩ := h.out i _ hce
        have hcc' := hcc.keep (hT.out.bel.block _ hcc.lt)
        have d0 := hcc'.st
        have d1 := hcc'.nm
        have d2 := hcc'.id
        have d3 := hcc'.kd
        simp only at d0 d1 d2 d3
        have hnl : n' ≤ i := by
          have h1 := hT.out.len
          have := List.length_filter_le (askP af inn) (g.cs.take i)
          have h3 := List.length_take_le i g.cs
          omega
        clear hcc'
        by_cases hst : af < cst
        · by_cases hie : inn = ByteArray.empty
          · subst hie
            have hpt : Hid (askP af ByteArray.empty ⟨cst, cnm, cid, ckd⟩ = true) := by show _ = _; simp [askP, pickB, hst]
            obtain ⟨W2, hW2⟩ : ∃ W2, Hid (wr.alloc (.cells #[.int .i64 cst, .string cnm, .string cid, .int .i64 ckd] 30) = W2) := ⟨_, rfl⟩
            have hB2 : Below wr.heap.size wr W2 := by rw [← hW2.out]; exact (Below.refl _ wr).alloc (Nat.le_refl _) _
            have hsrc : Src Try.prog 4 23 (.slice (some ⟨wr.heap.size, 0, none⟩) 1 1) 1 (chgCs ⟨cst, cnm, cid, ckd⟩) W2 := by
              rw [← hW2.out]
              exact Src.of_block (cs := #[.int .i64 cst, .string cnm, .string cid, .int .i64 ckd]) Try.underlying23 (heap_alloc_new wr _) 1 1 rfl (fun u hu => flatC_one [⟨cst, cnm, cid, ckd⟩] u (by simpa [flatC, chgCs] using hu))
            have x0 := hid_of (hT.out.row.below hB2)
            have x6 : Hid (n' + 1 ≤ maxLen ∧ (n' + 1) * 48 ≤ 140737488355328 ∧ w.heap.size + 1 ≤ W2.heap.size) := by
              have := hB2.size
              have := hT.out.sz
              unfold maxLen
              exact ⟨by omega, by omega, by omega⟩
            have hmap : Hid ((g.cs.take (i + 1)).filter (askP af ByteArray.empty) = (g.cs.take i).filter (askP af ByteArray.empty) ++ [⟨cst, cnm, cid, ckd⟩]) := by
              show _ = _
              rw [filter_take_succ _ hce, hpt.out]
              rfl
            have hstep := hid_of (fun g2 o2 c2 W3 hA => hT.out.more (W2 := W2) (W3 := W3) (c := ⟨cst, cnm, cid, ckd⟩) (g := g2) (o := o2) (c2 := c2) hB2 hA)
            clear hB2 hT hce hcc hpt
            go_wp2_with (first
              | rw [hW2.out]
              | (at_builtin; go_must (refine wpList_append_rw W2 rfl _ _ 23 rfl 30 ri _ 4 48 Try.underlying23 hri hri1 hri2 hri3 rfl (w.heap.size + 1) a' n' c' (flatC ((g.cs.take i).filter (askP af ByteArray.empty))) rfl x0.out.len x0.out.le x0.out.mx x0.out.rd _ rfl 1 (chgCs ⟨cst, cnm, cid, ckd⟩) hsrc (fun _ => x0.out) (by decide) x6.out.1 x6.out.2.1 x6.out.2.2 ?_); intro g2 o2 c2 W3 hA; have hT3 := hid_of (hstep.out g2 o2 c2 W3 hA); clear hA hsrc hstep x0))
            go_roundw
            case rel => exact ⟨i + 1, _, _, _, by go_num, rfl, by omega, by rw [hmap.out]; exact hT3⟩
            case measure =>
              simp only [intOf]
              omega
          · have hb0 := bytes_empty hie
            by_cases hnm : cnm = inn
            · subst hnm
              have hpt : Hid (askP af cnm ⟨cst, cnm, cid, ckd⟩ = true) := by show _ = _; simp [askP, pickB, hst]
              obtain ⟨W2, hW2⟩ : ∃ W2, Hid (wr.alloc (.cells #[.int .i64 cst, .string cnm, .string cid, .int .i64 ckd] 30) = W2) := ⟨_, rfl⟩
              have hB2 : Below wr.heap.size wr W2 := by rw [← hW2.out]; exact (Below.refl _ wr).alloc (Nat.le_refl _) _
              have hsrc : Src Try.prog 4 23 (.slice (some ⟨wr.heap.size, 0, none⟩) 1 1) 1 (chgCs ⟨cst, cnm, cid, ckd⟩) W2 := by
                rw [← hW2.out]
                exact Src.of_block (cs := #[.int .i64 cst, .string cnm, .string cid, .int .i64 ckd]) Try.underlying23 (heap_alloc_new wr _) 1 1 rfl (fun u hu => flatC_one [⟨cst, cnm, cid, ckd⟩] u (by simpa [flatC, chgCs] using hu))
              have x0 := hid_of (hT.out.row.below hB2)
              have x6 : Hid (n' + 1 ≤ maxLen ∧ (n' + 1) * 48 ≤ 140737488355328 ∧ w.heap.size + 1 ≤ W2.heap.size) := by
                have := hB2.size
                have := hT.out.sz
                unfold maxLen
                exact ⟨by omega, by omega, by omega⟩
              have hmap : Hid ((g.cs.take (i + 1)).filter (askP af cnm) = (g.cs.take i).filter (askP af cnm) ++ [⟨cst, cnm, cid, ckd⟩]) := by
                show _ = _
                rw [filter_take_succ _ hce, hpt.out]
                rfl
              have hstep := hid_of (fun g2 o2 c2 W3 hA => hT.out.more (W2 := W2) (W3 := W3) (c := ⟨cst, cnm, cid, ckd⟩) (g := g2) (o := o2) (c2 := c2) hB2 hA)
              clear hB2 hT hce hcc hpt
              go_wp2_with (first
                | rw [hW2.out]
                | (at_builtin; go_must (refine wpList_append_rw W2 rfl _ _ 23 rfl 30 ri _ 4 48 Try.underlying23 hri hri1 hri2 hri3 rfl (w.heap.size + 1) a' n' c' (flatC ((g.cs.take i).filter (askP af cnm))) rfl x0.out.len x0.out.le x0.out.mx x0.out.rd _ rfl 1 (chgCs ⟨cst, cnm, cid, ckd⟩) hsrc (fun _ => x0.out) (by decide) x6.out.1 x6.out.2.1 x6.out.2.2 ?_); intro g2 o2 c2 W3 hA; have hT3 := hid_of (hstep.out g2 o2 c2 W3 hA); clear hA hsrc hstep x0))
              go_roundw
              case rel => exact ⟨i + 1, _, _, _, by go_num, rfl, by omega, by rw [hmap.out]; exact hT3⟩
              case measure =>
                simp only [intOf]
                omega
            · have hb1 := bytes_ne hnm
              have hpf : Hid (askP af inn ⟨cst, cnm, cid, ckd⟩ = false) := by show _ = _; simp [askP, pickB, hie, hnm]
              have hmap : Hid ((g.cs.take (i + 1)).filter (askP af inn) = (g.cs.take i).filter (askP af inn)) := by
                show _ = _
                rw [filter_take_succ _ hce, hpf.out]
                simp
              clear hce hcc hpf
              go_wp2_with fail
              go_roundw
              case rel => exact ⟨i + 1, _, _, _, by go_num, rfl, by omega, by rw [hmap.out]; exact hT⟩
              case measure =>
                simp only [intOf]
                omega
        · have hpf : Hid (askP af inn ⟨cst, cnm, cid, ckd⟩ = false) := by show _ = _; simp [askP]; omega
          have hmap : Hid ((g.cs.take (i + 1)).filter (askP af inn) = (g.cs.take i).filter (askP af inn)) := by
            show _ = _
            rw [filter_take_succ _ hce, hpf.out]
            simp
          clear hce hcc hpf
          go_wp2_with fail
          go_roundw
          case rel => exact ⟨i + 1, _, _, _, by go_num, rfl, by omega, by rw [hmap.out]; exact hT⟩
          case measure =>
            simp only [intOf]
            omega
      · obtain rfl : i = L := by omega
        have hTq : Hid (RT w wr k a i cap g.hor x a' n' c' qs) := by
          have := hT.out
          rw [List.take_of_length_le (by rw [hL.out]; exact Nat.le_refl _), hqe.out] at this
          exact this
        clear hT
        by_cases hl0 : lim ≤ 0
        · have hff : f = qs.length := by rw [← hf.out]; exact fit_all (.inl hl0)
          have hup : Hid (up = en) := by
            have := hupe.out
            rw [if_neg (by omega)] at this
            exact this.symm
          have htq : Hid (told = qs) := by rw [← htold.out, hff]; exact List.take_of_length_le (Nat.le_refl _)
          have hfin : Hid (RAPost w told up 0 (.returned (.tuple #[.slice a' n' c', .int .i64 en, .int .i64 0])) wr) := by
            have := hpost.out a' c' wr hTq.out.bel (by rw [htq.out]; exact hTq.out.row.chgs.mono (fun b' hb' _ => by omega)) (by rw [htq.out, hTq.out.len]; exact hTq.out.row.le) (by have := hTq.out.row.mx; unfold maxLen at this; omega)
            rw [show told.length = n' from by rw [htq.out]; exact hTq.out.len] at this
            rw [hup.out] at this ⊢
            exact this
          go_wp2_with fail
          go_ret3
          exact hfin.out
        · have hl0' : 0 < lim := by omega
          have hnl' : n' ≤ 4096 := by have := hTq.out.len; omega
          go_wp2_with fail
          clear c1
          go_loopw [14] (fun nv wr => ∃ m : Nat, nv = .int .i64 (m : Nat) ∧ m ≤ n' ∧ Hid (RefI qs lim m) ∧ Hid (RT w wr k a i cap g.hor x a' n' c' qs)) (fun nv _ => n' - (intOf nv).toNat)
          case atStart => exact ⟨0, rfl, Nat.zero_le _, RefI.zero _ _, hTq⟩
          case round =>
            obtain ⟨m, rfl, hmn', hI, hTm⟩ := hrel
            by_cases hmn : m < n'
            · obtain ⟨cm, hcm⟩ : ∃ c, qs[m]? = some c := ⟨_, List.getElem?_eq_getElem (by rw [hTq.out.len]; exact hmn)⟩
              replace hcm := hid_of hcm
              go_wp2_with fail
              go_loopw [15] (fun kv wr => ∃ j : Nat, kv = .int .i64 (j : Nat) ∧ m ≤ j ∧ j ≤ n' ∧ Hid (∀ (i : Nat) (c d : Chg), m ≤ i → i < j → qs[i]? = some c → qs[m]? = some d → c.st = d.st) ∧ Hid (RT w wr k a i cap g.hor x a' n' c' qs)) (fun kv _ => n' - (intOf kv).toNat)
              case atStart => exact ⟨m, rfl, Nat.le_refl _, hmn', fun i c d h1 h2 => by omega, hTm⟩
              case round =>
                clear hTm
                obtain ⟨j, rfl, hmj', hjn, hgr, hTr⟩ := hrel
                by_cases hj : j < n'
                · obtain ⟨cj, hcj⟩ : ∃ c, qs[j]? = some c := ⟨_, List.getElem?_eq_getElem (by rw [hTq.out.len]; exact hj)⟩
                  obtain ⟨b3, o3, hae, -, hcc⟩ := hTr.out.row.chgs j cj hcj
                  obtain ⟨b4, o4, hae4, -, hcc4⟩ := hTr.out.row.chgs m cm hcm.out
                  have dj := hcc.st
                  have dm := hcc4.st
                  obtain ⟨zj, hzj⟩ : ∃ z, Hid (cj.st = z) := ⟨_, rfl⟩
                  obtain ⟨zm, hzm⟩ : ∃ z, Hid (cm.st = z) := ⟨_, rfl⟩
                  rw [hzj.out] at dj
                  rw [hzm.out] at dm
                  subst hae
                  cases hae4
                  replace hcj := hid_of hcj
                  have hj3 : (0 : Int) ≤ (j : Int) := by omega
                  have hj4 : (j : Int) < (n' : Int) := by omega
                  have hm3 : (0 : Int) ≤ (m : Int) := by omega
                  have hm4 : (m : Int) < (n' : Int) := by omega
                  clear hcc hcc4
                  by_cases hzz : zj = zm
                  · have hbz : (zj == zm) = true := beq_iff_eq.2 hzz
                    replace hzz := hid_of hzz
                    go_upto_region 17 with fail
                    go_quiet (fail)
                    have hT2 := hid_of (hTr.out.below (below_drewN (Below.refl _ wr) nq))
                    have hgr2 : Hid (∀ (i : Nat) (c d : Chg), m ≤ i → i < j + 1 → qs[i]? = some c → qs[m]? = some d → c.st = d.st) := fun i c d h1 h2 h3 h4 => by
                      by_cases hij : i = j
                      · subst hij
                        rw [hcj.out] at h3
                        rw [hcm.out] at h4
                        cases h3
                        cases h4
                        rw [hzj.out, hzm.out]
                        exact hzz.out
                      · exact hgr.out i c d h1 (by omega) h3 h4
                    clear dj dm
                    go_wp2_with fail
                    go_roundw
                    case rel => exact ⟨j + 1, by go_num, by omega, by omega, hgr2, hT2⟩
                    case measure =>
                      simp only [intOf]
                      omega
                  · have hbz : (zj == zm) = false := beq_eq_false_iff_ne.2 hzz
                    have hge : Hid (∀ (c d : Chg), qs[j]? = some c → qs[m]? = some d → c.st ≠ d.st) := fun c d h3 h4 e => by
                      rw [hcj.out] at h3
                      rw [hcm.out] at h4
                      cases h3
                      cases h4
                      rw [hzj.out, hzm.out] at e
                      exact hzz e
                    have hmj : m < j := by
                      rcases Nat.lt_or_ge m j with h' | h'
                      · exact h'
                      · have : m = j := by omega
                        subst this
                        have h1 := hcm.out
                        rw [hcj.out] at h1
                        cases h1
                        exact absurd (hzj.out.symm.trans hzm.out) hzz
                    replace hzz := hid_of hzz
                    go_upto_region 17 with fail
                    go_quiet (fail)
                    replace hTr := hid_of (hTr.out.below (below_drewN (Below.refl _ wr) nq))
                    obtain ⟨wq, hwq⟩ : ∃ wq, Hid (wr.drewN nq = wq) := ⟨_, rfl⟩
                    rw [hwq.out] at hTr ⊢
                    clear dj dm hwq
                    go_upto_region 19 with fail
                    by_cases hstop : 0 < m ∧ lim < (j : Int)
                    · obtain ⟨hm0, hlj⟩ := hstop
                      have hff : f = m := by rw [← hf.out]; exact ref_stop hl0' hI.out hm0 (by rw [hTq.out.len]; exact hmn) (by rw [hTq.out.len]; exact hjn) hlj hgr.out
                      obtain ⟨p, hp⟩ : ∃ p, Hid (m - 1 = p) := ⟨_, rfl⟩
                      have hpm : p < m := by have := hp.out; omega
                      obtain ⟨cp, hcp⟩ : ∃ c, qs[p]? = some c := ⟨_, List.getElem?_eq_getElem (by rw [hTq.out.len]; omega)⟩
                      obtain ⟨b5, o5, hae, hbl, hcc⟩ := hTr.out.row.chgs p cp hcp
                      have hup : Hid (cp.st = up) := by
                        have := hupe.out
                        rw [if_pos (by rw [hff, hTq.out.len]; exact hmn), hff] at this
                        rw [← this]
                        exact (lastSt_get _ p cp (by rw [List.getElem?_take_of_lt hpm]; exact hcp) (by rw [List.length_take, hTq.out.len]; have := hp.out; omega)).symm
                      have dp := hcc.st
                      rw [hup.out] at dp
                      have htl : Hid (told.length = m) := by rw [← htold.out, hff]; show _ = _; rw [List.length_take, hTq.out.len]; omega
                      have hfin : Hid (∀ q, RAPost w told up 0 (.returned (.tuple #[.slice (some ⟨b3, o3, none⟩) m c', .int .i64 up, .int .i64 0])) (wq.drewN q)) := fun q => by
                        have hTd := hTr.out.below (below_drewN (Below.refl _ wq) q)
                        have := hpost.out (some ⟨b3, o3, none⟩) c' (wq.drewN q) hTd.bel (by rw [← htold.out]; exact (hTd.row.chgs.take f).mono (fun b' hb' _ => by omega)) (by rw [htl.out]; have := hTd.row.le; omega) (by have := hTd.row.mx; unfold maxLen at this; omega)
                        rw [htl.out] at this
                        exact this
                      cases hae
                      have hc0 : ¬ c' = 0 := by have := hTr.out.row.le; omega
                      have hmc : (m : Int) ≤ (c' : Int) := by have := hTr.out.row.le; omega
                      have hm3 : (0 : Int) ≤ (m : Int) := by omega
                      have hm4 : (0 : Int) < (m : Int) := by omega
                      have hp3 : (0 : Int) ≤ (p : Int) := by omega
                      have hp4 : (p : Int) < (n' : Int) := by omega
                      have hp5 : IntKind.i64.wrap ((m : Int) - 1) = (p : Int) := by have := hp.out; rw [wrap_in (by omega) (by omega)]; omega
                      clear hcp hcc hTr hTq hI hgr hge
                      go_wp2_with fail
                      go_quiet (fail)
                      go_wp2_with fail
                      go_ret3
                      exact hfin.out _
                    · have hI2 : Hid (RefI qs lim j) := ref_step hqr.out (by rw [hTq.out.len]; exact hmn) hmj (by rw [hTq.out.len]; exact hjn) hgr.out hge.out (by omega)
                      by_cases hm0 : 0 < m
                      · have hlj : ¬ lim < (j : Int) := fun h' => hstop ⟨hm0, h'⟩
                        have hm4 : (0 : Int) < (m : Int) := by omega
                        clear hstop hgr hge
                        go_wp2_with fail
                        go_roundw
                        case rel => exact ⟨j, rfl, hjn, hI2, hTr⟩
                        case measure =>
                          simp only [intOf]
                          omega
                      · have hm4 : ¬ (0 : Int) < (m : Int) := by omega
                        clear hstop hgr hge
                        go_wp2_with fail
                        go_roundw
                        case rel => exact ⟨j, rfl, hjn, hI2, hTr⟩
                        case measure =>
                          simp only [intOf]
                          omega
                · obtain rfl : j = n' := by omega
                  have hge : Hid (∀ (c d : Chg), qs[j]? = some c → qs[m]? = some d → c.st ≠ d.st) := fun c d h3 h4 e => by
                    have := (List.getElem?_eq_some_iff.1 h3).1
                    have := hTq.out.len
                    omega
                  have hmj : m < j := hmn
                  have hj4 : ¬ (j : Int) < (j : Int) := by omega
                  go_upto_region 17 with fail
                  go_quiet (fail)
                  replace hTr := hid_of (hTr.out.below (below_drewN (Below.refl _ wr) nq))
                  obtain ⟨wq, hwq⟩ : ∃ wq, Hid (wr.drewN nq = wq) := ⟨_, rfl⟩
                  rw [hwq.out] at hTr ⊢
                  clear hwq
                  go_upto_region 19 with fail
                  by_cases hstop : 0 < m ∧ lim < (j : Int)
                  · obtain ⟨hm0, hlj⟩ := hstop
                    have hff : f = m := by rw [← hf.out]; exact ref_stop hl0' hI.out hm0 (by rw [hTq.out.len]; exact hmn) (by rw [hTq.out.len]; exact hjn) hlj hgr.out
                    obtain ⟨p, hp⟩ : ∃ p, Hid (m - 1 = p) := ⟨_, rfl⟩
                    have hpm : p < m := by have := hp.out; omega
                    obtain ⟨cp, hcp⟩ : ∃ c, qs[p]? = some c := ⟨_, List.getElem?_eq_getElem (by rw [hTq.out.len]; omega)⟩
                    obtain ⟨b3, o3, hae, hbl, hcc⟩ := hTr.out.row.chgs p cp hcp
                    have hup : Hid (cp.st = up) := by
                      have := hupe.out
                      rw [if_pos (by rw [hff, hTq.out.len]; exact hmn), hff] at this
                      rw [← this]
                      exact (lastSt_get _ p cp (by rw [List.getElem?_take_of_lt hpm]; exact hcp) (by rw [List.length_take, hTq.out.len]; have := hp.out; omega)).symm
                    have dp := hcc.st
                    rw [hup.out] at dp
                    have htl : Hid (told.length = m) := by rw [← htold.out, hff]; show _ = _; rw [List.length_take, hTq.out.len]; omega
                    have hfin : Hid (∀ q, RAPost w told up 0 (.returned (.tuple #[.slice a' m c', .int .i64 up, .int .i64 0])) (wq.drewN q)) := fun q => by
                      have hTd := hTr.out.below (below_drewN (Below.refl _ wq) q)
                      have := hpost.out a' c' (wq.drewN q) hTd.bel (by rw [← htold.out]; exact (hTd.row.chgs.take f).mono (fun b' hb' _ => by omega)) (by rw [htl.out]; have := hTd.row.le; omega) (by have := hTd.row.mx; unfold maxLen at this; omega)
                      rw [htl.out] at this
                      exact this
                    subst hae
                    have hc0 : ¬ c' = 0 := by have := hTr.out.row.le; omega
                    have hmc : (m : Int) ≤ (c' : Int) := by have := hTr.out.row.le; omega
                    have hm3 : (0 : Int) ≤ (m : Int) := by omega
                    have hm4 : (0 : Int) < (m : Int) := by omega
                    have hp3 : (0 : Int) ≤ (p : Int) := by omega
                    have hp4 : (p : Int) < (j : Int) := by omega
                    have hp5 : IntKind.i64.wrap ((m : Int) - 1) = (p : Int) := by have := hp.out; rw [wrap_in (by omega) (by omega)]; omega
                    clear hcp hcc hTr hTq hI hgr hge
                    go_wp2_with fail
                    go_quiet (fail)
                    go_wp2_with fail
                    go_ret3
                    exact hfin.out _
                  · have hI2 : Hid (RefI qs lim j) := ref_step hqr.out (by rw [hTq.out.len]; exact hmn) hmj (by rw [hTq.out.len]; exact hjn) hgr.out hge.out (by omega)
                    by_cases hm0 : 0 < m
                    · have hlj : ¬ lim < (j : Int) := fun h' => hstop ⟨hm0, h'⟩
                      have hm4 : (0 : Int) < (m : Int) := by omega
                      clear hstop hgr hge
                      go_wp2_with fail
                      go_roundw
                      case rel => exact ⟨j, rfl, hjn, hI2, hTr⟩
                      case measure =>
                        simp only [intOf]
                        omega
                    · have hm4 : ¬ (0 : Int) < (m : Int) := by omega
                      clear hstop hgr hge
                      go_wp2_with fail
                      go_roundw
                      case rel => exact ⟨j, rfl, hjn, hI2, hTr⟩
                      case measure =>
                        simp only [intOf]
                        omega
            · obtain rfl : m = n' := by omega
              have hff : f = qs.length := by
                rw [← hf.out]
                refine ref_end hl0' ?_
                rw [hTq.out.len]
                exact hI.out
              have hup : Hid (up = en) := by
                have := hupe.out
                rw [if_neg (by omega)] at this
                exact this.symm
              have htq : Hid (told = qs) := by rw [← htold.out, hff]; exact List.take_of_length_le (Nat.le_refl _)
              replace hTq := hTm
              have hfin : Hid (RAPost w told up 0 (.returned (.tuple #[.slice a' m c', .int .i64 en, .int .i64 0])) wr) := by
                have := hpost.out a' c' wr hTq.out.bel (by rw [htq.out]; exact hTq.out.row.chgs.mono (fun b' hb' _ => by omega)) (by rw [htq.out, hTq.out.len]; exact hTq.out.row.le) (by have := hTq.out.row.mx; unfold maxLen at this; omega)
                rw [show told.length = m from by rw [htq.out]; exact hTq.out.len] at this
                rw [hup.out] at this ⊢
                exact this
              go_wp2_with fail
              go_ret3
              exact hfin.out
theorem rafter_any {S : Nat → Prop} {k : Nat} {g : Lg} {a : Option Addr} {cap : Nat} {w : World} (h : ChgsAt S w a g.cs) (hok : g.Ok k) (hk2 : k ≤ 4096) (af lim : Int) (inn : ByteArray) :
    Calls Try.prog 31 #[refV k a g.cs.length cap g.hor (lastSt g.cs), .int .i64 af, .int .i64 lim, .string inn] w (RAPost w (toldT g af lim inn) (uptoT g af lim inn) (errT g af)) := by
  by_cases hg : af < g.hor
  · exact rafter_gone af lim inn hg
  · exact rafter_has h hok hk2 af lim inn hg
end Go.Proofs.Ytpdcinicnekeoaa
