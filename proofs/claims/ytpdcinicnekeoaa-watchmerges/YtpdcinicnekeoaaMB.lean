import Derived.Test.YtpdcinicnekeoaaMA
/-! watch: woven. -/
namespace Go.Proofs.Ytpdcinicnekeoaa
open Go Go.RowKit Go.Watch
/-- Weaving: what is left of both, what is done. -/
structure Wv (w0 w : World) (N : Nat) (la lb : List Chg) (a' : Option Addr) (nx ca' : Nat) (b' : Option Addr) (ny cb' : Nat) (G nd : Nat) (xs ys dn : List Chg) : Prop where
  bel : Below w0.heap.size w0 w
  xl : xs.length = nx
  yl : ys.length = ny
  xc : nx ≤ ca'
  yc : ny ≤ cb'
  xat : ChgsAt (fun _ => True) w0 a' xs
  yat : ChgsAt (fun _ => True) w0 b' ys
  row : Rw w w0.heap.size 4 (some ⟨G, 0, none⟩) nd N (flatC dn)
  dl : dn.length = nd
  sum : nd + nx + ny = N
  eq : dn ++ mw xs ys = mw la lb
  gl : w0.heap.size ≤ G
theorem Wv.stepY {w0 w W2 W3 : World} {N : Nat} {la lb : List Chg} {a' : Option Addr} {nx ca' : Nat} {b' : Option Addr} {ny cb' : Nat} {G nd : Nat} {x y : Chg} {xs ys dn : List Chg} {g o c : Nat} (h : Wv w0 w N la lb a' nx ca' b' (ny + 1) cb' G nd (x :: xs) (y :: ys) dn) (hlt : y.st < x.st) (hb : Below w.heap.size w W2) (hA : Appd W2 w0.heap.size 4 (some ⟨G, 0, none⟩) nd 1 N (flatC dn ++ chgCs y) g o c W3) :
    g = G ∧ o = 0 ∧ c = N ∧ Wv w0 W3 N la lb a' nx ca' (advA b' 1 4 cb') ny (cb' - 1) G (nd + 1) (x :: xs) ys (dn ++ [y]) := by
  have hs := h.sum
  have hyc := h.yc
  have hyl := h.yl
  obtain ⟨rfl, rfl, rfl⟩ : g = G ∧ o = 0 ∧ c = N := by
    rcases hA.at' with ⟨e, h1, -⟩ | ⟨-, -, h1⟩
    · cases e; exact ⟨rfl, rfl, h1⟩
    · omega
  refine ⟨rfl, rfl, rfl, hA.below (h.bel.trans (hb.mono h.bel.size)) (Nat.le_refl _) (fun q hq => by obtain ⟨o3, s3, e3⟩ := hq; cases e3; exact h.gl), h.xl, by simpa using hyl, h.xc, by omega, h.xat, ?_, by rw [flatC_snoc]; exact hA.row, by simp [h.dl], by omega, ?_, h.gl⟩
  · have := h.yat.drop 1 cb' (fun e => by rw [hyl]; omega)
    simpa using this
  · rw [← h.eq, mw_lt hlt]
    simp
theorem Wv.stepX {w0 w W2 W3 : World} {N : Nat} {la lb : List Chg} {a' : Option Addr} {nx ca' : Nat} {b' : Option Addr} {ny cb' : Nat} {G nd : Nat} {x y : Chg} {xs ys dn : List Chg} {g o c : Nat} (h : Wv w0 w N la lb a' (nx + 1) ca' b' ny cb' G nd (x :: xs) (y :: ys) dn) (hlt : ¬ y.st < x.st) (hb : Below w.heap.size w W2) (hA : Appd W2 w0.heap.size 4 (some ⟨G, 0, none⟩) nd 1 N (flatC dn ++ chgCs x) g o c W3) :
    g = G ∧ o = 0 ∧ c = N ∧ Wv w0 W3 N la lb (advA a' 1 4 ca') nx (ca' - 1) b' ny cb' G (nd + 1) xs (y :: ys) (dn ++ [x]) := by
  have hs := h.sum
  have hxc := h.xc
  have hxl := h.xl
  obtain ⟨rfl, rfl, rfl⟩ : g = G ∧ o = 0 ∧ c = N := by
    rcases hA.at' with ⟨e, h1, -⟩ | ⟨-, -, h1⟩
    · cases e; exact ⟨rfl, rfl, h1⟩
    · omega
  refine ⟨rfl, rfl, rfl, hA.below (h.bel.trans (hb.mono h.bel.size)) (Nat.le_refl _) (fun q hq => by obtain ⟨o3, s3, e3⟩ := hq; cases e3; exact h.gl), by simpa using hxl, h.yl, by omega, h.yc, ?_, h.yat, by rw [flatC_snoc]; exact hA.row, by simp [h.dl], by omega, ?_, h.gl⟩
  · have := h.xat.drop 1 ca' (fun e => by rw [hxl]; omega)
    simpa using this
  · rw [← h.eq, mw_ge hlt]
    simp
theorem Wv.below {w0 w w' : World} {N : Nat} {la lb : List Chg} {a' : Option Addr} {nx ca' : Nat} {b' : Option Addr} {ny cb' : Nat} {G nd : Nat} {xs ys dn : List Chg} (h : Wv w0 w N la lb a' nx ca' b' ny cb' G nd xs ys dn) (hb : Below w.heap.size w w') : Wv w0 w' N la lb a' nx ca' b' ny cb' G nd xs ys dn :=
  ⟨h.bel.trans (hb.mono h.bel.size), h.xl, h.yl, h.xc, h.yc, h.xat, h.yat, h.row.below hb, h.dl, h.sum, h.eq, h.gl⟩
set_option maxHeartbeats 8000000 in
set_option maxRecDepth 100000 in
theorem woven_any {S T : Nat → Prop} {a b : Option Addr} {la lb : List Chg} {ca cb : Nat} {w : World} (ha : ChgsAt S w a la) (hb : ChgsAt T w b lb) (hca : la.length ≤ ca) (hcb : lb.length ≤ cb) (hN : la.length + lb.length ≤ 1048576) :
    Calls Try.prog 37 #[.slice a la.length ca, .slice b lb.length cb, .func (.func 30) #[] #[]] w (MPost w (mw la lb)) := by
  obtain ⟨ri, hri, hri1, hri2, hri3⟩ := chg_info
  obtain ⟨na, hna⟩ : ∃ n, Hid (la.length = n) := ⟨_, rfl⟩
  obtain ⟨nb, hnb⟩ : ∃ n, Hid (lb.length = n) := ⟨_, rfl⟩
  rw [hna.out] at hca hN ⊢
  rw [hnb.out] at hcb hN ⊢
  obtain ⟨N, hNe⟩ : ∃ N, Hid (na + nb = N) := ⟨_, rfl⟩
  have hNi : Hid ((na : Int) + (nb : Int) = (N : Int)) := by have := hNe.out; show _ = _; omega
  have hN' : N ≤ 1048576 := by have := hNe.out; omega
  have hmk := make_room N (by omega)
  by_cases hN0 : N = 0
  · have ha0 : na = 0 := by have := hNe.out; omega
    have hb0 : nb = 0 := by have := hNe.out; omega
    have el : la = [] := List.length_eq_zero_iff.1 (by rw [hna.out]; exact ha0)
    have er : lb = [] := List.length_eq_zero_iff.1 (by rw [hnb.out]; exact hb0)
    subst hN0 ha0 hb0
    have hmw : Hid (mw la lb = []) := by rw [el, er]; exact nil_mw []
    rw [hmw.out]
    have hfin : Hid (MPost w [] (.returned (.slice (some ⟨w.heap.size, 0, none⟩) 0 0)) (w.alloc (roomOf 0))) := ⟨(Below.refl _ w).alloc (Nat.le_refl _) _, _, _, rfl, Rw.nil _ _ _ _⟩
    have hmk0 := hmk w
    rw [show ((0 : Nat) : Int) = 0 from rfl] at hmk0
    clear ha hb hmk el er hmw hNi
    go_enter Try.func37, Try.ntmps37
    go_wp2_with fail
    refine wp_loop_rounds 1 ?_
    rw [rounds_succ]
    obtain ⟨W1, hW1⟩ : ∃ W1, Hid (w.alloc (roomOf 0) = W1) := ⟨_, rfl⟩
    rw [hW1.out] at hfin ⊢
    go_wp2_with (at_builtin; refine wpList_append_zero W1 rfl _ _ 23 rfl 30 ri Try.underlying23 hri w.heap.size 0 0 (Nat.le_refl _) rfl _ _ rfl ?_)
    go_ret
    exact hfin.out
  · have hW1e := hmk w
    obtain ⟨W1, hW1⟩ : ∃ W1, Hid (w.alloc (roomOf N) = W1) := ⟨_, rfl⟩
    have hst : Hid (Wv w W1 N la lb a na ca b nb cb w.heap.size 0 la lb []) := by
      rw [← hW1.out]
      exact ⟨(Below.refl _ w).alloc (Nat.le_refl _) _, hna.out, hnb.out, hca, hcb, ha.mono (fun _ _ _ => trivial), hb.mono (fun _ _ _ => trivial), room_rw N w (by unfold maxLen; omega), rfl, by have := hNe.out; omega, rfl, Nat.le_refl _⟩
    rw [hW1.out] at hW1e
    have hml : Hid ((mw la lb).length = N) := by show _ = _; rw [mw_len, hna.out, hnb.out]; exact hNe.out
    clear ha hb hmk
    go_enter Try.func37, Try.ntmps37
    go_wp2_with (first | rw [hNi.out] | fail)
    clear hW1e hW1
    go_loopw [0, 1, 7] (fun av bv sv wr => ∃ (xs ys dn : List Chg) (a' : Option Addr) (nx ca' : Nat) (b' : Option Addr) (ny cb' nd : Nat), av = .slice a' nx ca' ∧ bv = .slice b' ny cb' ∧ sv = .slice (some ⟨w.heap.size, 0, none⟩) nd N ∧ Hid (Wv w wr N la lb a' nx ca' b' ny cb' w.heap.size nd xs ys dn)) (fun av bv _ _ => sliceLen av + sliceLen bv)
    case atStart => exact ⟨la, lb, [], a, na, ca, b, nb, cb, 0, rfl, rfl, rfl, hst⟩
    case round =>
      clear hst
      obtain ⟨xs, ys, dn, a', nx, ca', b', ny, cb', nd, rfl, rfl, rfl, hV⟩ := hrel
      have hs := hV.out.sum
      have hxc := hV.out.xc
      have hyc := hV.out.yc
      by_cases hgo : 0 < nx ∧ 0 < ny
      · obtain ⟨hx0, hy0⟩ := hgo
        obtain ⟨x, xs, rfl⟩ : ∃ x r, xs = x :: r := by
          cases xs with
          | nil => have := hV.out.xl; simp at this; omega
          | cons x r => exact ⟨x, r, rfl⟩
        obtain ⟨y, ys, rfl⟩ : ∃ x r, ys = x :: r := by
          cases ys with
          | nil => have := hV.out.yl; simp at this; omega
          | cons x r => exact ⟨x, r, rfl⟩
        obtain ⟨nx, rfl⟩ : ∃ m, nx = m + 1 := ⟨nx - 1, by omega⟩
        obtain ⟨ny, rfl⟩ : ∃ m, ny = m + 1 := ⟨ny - 1, by omega⟩
        obtain ⟨bx, ox, rfl, -, hcx⟩ := hV.out.xat 0 x rfl
        obtain ⟨by', oy, rfl, -, hcy⟩ := hV.out.yat 0 y rfl
        have hcx' := hcx.keep (hV.out.bel.block _ hcx.lt)
        have hcy' := hcy.keep (hV.out.bel.block _ hcy.lt)
        obtain ⟨x0, x1, x2, x3⟩ := hcx'
        obtain ⟨y0, y1, y2, y3⟩ := hcy'
        simp only [Nat.zero_mul, Nat.add_zero] at x0 x1 x2 x3 y0 y1 y2 y3
        have hless := hid_of (fun W => less_any x y W)
        obtain ⟨xst, xnm, xid, xkd⟩ := x
        obtain ⟨yst, ynm, yid, ykd⟩ := y
        simp only at x0 x1 x2 x3 y0 y1 y2 y3 hless
        have hp1 : (0 : Int) < (nx : Int) + 1 := by omega
        have hp2 : (0 : Int) < (ny : Int) + 1 := by omega
        have hcxw := hid_of hcx
        have hcyw := hid_of hcy
        clear hcx hcy
        go_wp2_with fail
        go_region_held3 (fun w' => w'.cell? ⟨bx, ox, none⟩ = some (.int .i64 xst) ∧ w'.cell? ⟨bx, ox + 1, none⟩ = some (.string xnm) ∧ w'.cell? ⟨bx, ox + 2, none⟩ = some (.string xid) ∧ w'.cell? ⟨bx, ox + 3, none⟩ = some (.int .i64 xkd) ∧ w'.cell? ⟨by', oy, none⟩ = some (.int .i64 yst) ∧ w'.cell? ⟨by', oy + 1, none⟩ = some (.string ynm) ∧ w'.cell? ⟨by', oy + 2, none⟩ = some (.string yid) ∧ w'.cell? ⟨by', oy + 3, none⟩ = some (.int .i64 ykd)) (go_keep) (first
          | (go_at_call 30; refine (hless.out _).mono ?_; rintro e Z1 ⟨rfl, hz1⟩; have t0 := stay hz1 x0; have t1 := stay hz1 x1; have t2 := stay hz1 x2; have t3 := stay hz1 x3; have t4 := stay hz1 y0; have t5 := stay hz1 y1; have t6 := stay hz1 y2; have t7 := stay hz1 y3; replace hz1 := hid_of hz1))
        have hV1 := hid_of (hV.out.below ((below_drew (Below.refl _ wr)).trans hz1.out))
        clear hz1 hless x0 x1 x2 x3 y0 y1 y2 y3 hV
        by_cases hlt : yst < xst
        · have hd : decide (yst < xst) = true := decide_eq_true hlt
          rw [hd]
          clear hd t0 t1 t2 t3
          have hBx : Below Z1.heap.size Z1 ((Z1.alloc (.cells #[.int .i64 yst, .string ynm, .string yid, .int .i64 ykd] 30)).drew) := below_drew ((Below.refl _ Z1).alloc (Nat.le_refl _) _)
          have hsrc : Hid (Src Try.prog 4 23 (.slice (some ⟨Z1.heap.size, 0, none⟩) 1 1) 1 (chgCs ⟨yst, ynm, yid, ykd⟩) ((Z1.alloc (.cells #[.int .i64 yst, .string ynm, .string yid, .int .i64 ykd] 30)).drew)) := Src.of_block (w := (Z1.alloc (.cells #[.int .i64 yst, .string ynm, .string yid, .int .i64 ykd] 30)).drew) (size := 4) (cs := #[.int .i64 yst, .string ynm, .string yid, .int .i64 ykd]) Try.underlying23 (by exact heap_alloc_new Z1 _) 1 1 rfl (fun u hu => flatC_one [⟨yst, ynm, yid, ykd⟩] u (by simpa [flatC, chgCs] using hu))
          have z0 := hid_of (hV1.out.row.below hBx)
          have z6 : Hid (nd + 1 ≤ maxLen ∧ (nd + 1) * 48 ≤ 140737488355328 ∧ w.heap.size ≤ ((Z1.alloc (.cells #[.int .i64 yst, .string ynm, .string yid, .int .i64 ykd] 30)).drew).heap.size) := by
            have h1 := hBx.size
            have h2 := hV1.out.bel.size
            unfold maxLen
            exact ⟨by omega, by omega, by omega⟩
          have hstep := hid_of (fun g2 o2 c2 W3 hA => hV1.out.stepY (W2 := (Z1.alloc (.cells #[.int .i64 yst, .string ynm, .string yid, .int .i64 ykd] 30)).drew) (W3 := W3) (g := g2) (o := o2) (c := c2) hlt hBx hA)
          have hcw : Hid (∀ W3, Below w.heap.size w W3 → W3.cell? ⟨by', oy, none⟩ = some (.int .i64 yst) ∧ W3.cell? ⟨by', oy + 1, none⟩ = some (.string ynm) ∧ W3.cell? ⟨by', oy + 2, none⟩ = some (.string yid) ∧ W3.cell? ⟨by', oy + 3, none⟩ = some (.int .i64 ykd)) := fun W3 hB => by
            have h := hcyw.out.keep (hB.block _ hcyw.out.lt)
            obtain ⟨q0, q1, q2, q3⟩ := h
            simp only [Nat.zero_mul, Nat.add_zero] at q0 q1 q2 q3
            exact ⟨q0, q1, q2, q3⟩
          replace hlt := hid_of hlt
          have hb1 : (1 : Int) ≤ (ny : Int) + 1 := by omega
          have hb2 : (ny : Int) + 1 ≤ (cb' : Int) := by omega
          clear hBx
          by_cases hc1 : cb' = 1
          · obtain rfl : ny = 0 := by omega
            subst hc1
            go_wp2_with fail
            go_region_held3 (fun w' => w'.cell? ⟨by', oy, none⟩ = some (.int .i64 yst) ∧ w'.cell? ⟨by', oy + 1, none⟩ = some (.string ynm) ∧ w'.cell? ⟨by', oy + 2, none⟩ = some (.string yid) ∧ w'.cell? ⟨by', oy + 3, none⟩ = some (.int .i64 ykd)) (first | exact hcw.out _ hV3.out.bel | go_keep) ((refine step_append_rw _ (by rfl) _ _ 23 (by rfl) 30 ri _ 4 48 Try.underlying23 hri hri1 hri2 hri3 (by rfl) w.heap.size (some ⟨w.heap.size, 0, none⟩) nd N (flatC dn) (by rfl) z0.out.len z0.out.le z0.out.mx z0.out.rd _ (by rfl) 1 (chgCs ⟨yst, ynm, yid, ykd⟩) hsrc.out (fun _ => z0.out) (by decide) z6.out.1 z6.out.2.1 z6.out.2.2 ?_; intro g2 o2 c2 W3 hA; obtain ⟨eg, eo, ec, hV3⟩ := hstep.out g2 o2 c2 W3 hA; subst eg eo ec; replace hV3 := hid_of hV3; clear hA))
            rename_i hHeld
            clear hHeld hstep hsrc z0
            go_wp2_with fail
            go_roundw
            case rel => exact ⟨_, _, _, _, _, _, _, _, _, _, rfl, by unfold advA; rw [if_pos rfl], rfl, hV3⟩
            case measure =>
              simp only [sliceLen]
              omega
          · go_wp2_with fail
            go_region_held3 (fun w' => w'.cell? ⟨by', oy, none⟩ = some (.int .i64 yst) ∧ w'.cell? ⟨by', oy + 1, none⟩ = some (.string ynm) ∧ w'.cell? ⟨by', oy + 2, none⟩ = some (.string yid) ∧ w'.cell? ⟨by', oy + 3, none⟩ = some (.int .i64 ykd)) (first | exact hcw.out _ hV3.out.bel | go_keep) ((refine step_append_rw _ (by rfl) _ _ 23 (by rfl) 30 ri _ 4 48 Try.underlying23 hri hri1 hri2 hri3 (by rfl) w.heap.size (some ⟨w.heap.size, 0, none⟩) nd N (flatC dn) (by rfl) z0.out.len z0.out.le z0.out.mx z0.out.rd _ (by rfl) 1 (chgCs ⟨yst, ynm, yid, ykd⟩) hsrc.out (fun _ => z0.out) (by decide) z6.out.1 z6.out.2.1 z6.out.2.2 ?_; intro g2 o2 c2 W3 hA; obtain ⟨eg, eo, ec, hV3⟩ := hstep.out g2 o2 c2 W3 hA; subst eg eo ec; replace hV3 := hid_of hV3; clear hA))
            rename_i hHeld
            clear hHeld hstep hsrc z0
            go_wp2_with fail
            go_roundw
            case rel => exact ⟨_, _, _, _, _, _, _, _, _, _, rfl, by unfold advA; rw [if_neg hc1]; simp [add_plain], rfl, hV3⟩
            case measure =>
              simp only [sliceLen]
              omega
        · have hd : decide (yst < xst) = false := decide_eq_false hlt
          rw [hd]
          clear hd t4 t5 t6 t7
          have hBx : Below Z1.heap.size Z1 ((Z1.alloc (.cells #[.int .i64 xst, .string xnm, .string xid, .int .i64 xkd] 30)).drew) := below_drew ((Below.refl _ Z1).alloc (Nat.le_refl _) _)
          have hsrc : Hid (Src Try.prog 4 23 (.slice (some ⟨Z1.heap.size, 0, none⟩) 1 1) 1 (chgCs ⟨xst, xnm, xid, xkd⟩) ((Z1.alloc (.cells #[.int .i64 xst, .string xnm, .string xid, .int .i64 xkd] 30)).drew)) := Src.of_block (w := (Z1.alloc (.cells #[.int .i64 xst, .string xnm, .string xid, .int .i64 xkd] 30)).drew) (size := 4) (cs := #[.int .i64 xst, .string xnm, .string xid, .int .i64 xkd]) Try.underlying23 (by exact heap_alloc_new Z1 _) 1 1 rfl (fun u hu => flatC_one [⟨xst, xnm, xid, xkd⟩] u (by simpa [flatC, chgCs] using hu))
          have z0 := hid_of (hV1.out.row.below hBx)
          have z6 : Hid (nd + 1 ≤ maxLen ∧ (nd + 1) * 48 ≤ 140737488355328 ∧ w.heap.size ≤ ((Z1.alloc (.cells #[.int .i64 xst, .string xnm, .string xid, .int .i64 xkd] 30)).drew).heap.size) := by
            have h1 := hBx.size
            have h2 := hV1.out.bel.size
            unfold maxLen
            exact ⟨by omega, by omega, by omega⟩
          have hstep := hid_of (fun g2 o2 c2 W3 hA => hV1.out.stepX (W2 := (Z1.alloc (.cells #[.int .i64 xst, .string xnm, .string xid, .int .i64 xkd] 30)).drew) (W3 := W3) (g := g2) (o := o2) (c := c2) hlt hBx hA)
          have hcw : Hid (∀ W3, Below w.heap.size w W3 → W3.cell? ⟨bx, ox, none⟩ = some (.int .i64 xst) ∧ W3.cell? ⟨bx, ox + 1, none⟩ = some (.string xnm) ∧ W3.cell? ⟨bx, ox + 2, none⟩ = some (.string xid) ∧ W3.cell? ⟨bx, ox + 3, none⟩ = some (.int .i64 xkd)) := fun W3 hB => by
            have h := hcxw.out.keep (hB.block _ hcxw.out.lt)
            obtain ⟨q0, q1, q2, q3⟩ := h
            simp only [Nat.zero_mul, Nat.add_zero] at q0 q1 q2 q3
            exact ⟨q0, q1, q2, q3⟩
          replace hlt := hid_of hlt
          have hb1 : (1 : Int) ≤ (nx : Int) + 1 := by omega
          have hb2 : (nx : Int) + 1 ≤ (ca' : Int) := by omega
          clear hBx
          by_cases hc1 : ca' = 1
          · obtain rfl : nx = 0 := by omega
            subst hc1
            go_wp2_with fail
            go_region_held3 (fun w' => w'.cell? ⟨bx, ox, none⟩ = some (.int .i64 xst) ∧ w'.cell? ⟨bx, ox + 1, none⟩ = some (.string xnm) ∧ w'.cell? ⟨bx, ox + 2, none⟩ = some (.string xid) ∧ w'.cell? ⟨bx, ox + 3, none⟩ = some (.int .i64 xkd)) (first | exact hcw.out _ hV3.out.bel | go_keep) ((refine step_append_rw _ (by rfl) _ _ 23 (by rfl) 30 ri _ 4 48 Try.underlying23 hri hri1 hri2 hri3 (by rfl) w.heap.size (some ⟨w.heap.size, 0, none⟩) nd N (flatC dn) (by rfl) z0.out.len z0.out.le z0.out.mx z0.out.rd _ (by rfl) 1 (chgCs ⟨xst, xnm, xid, xkd⟩) hsrc.out (fun _ => z0.out) (by decide) z6.out.1 z6.out.2.1 z6.out.2.2 ?_; intro g2 o2 c2 W3 hA; obtain ⟨eg, eo, ec, hV3⟩ := hstep.out g2 o2 c2 W3 hA; subst eg eo ec; replace hV3 := hid_of hV3; clear hA))
            rename_i hHeld
            clear hHeld hstep hsrc z0
            go_wp2_with fail
            go_roundw
            case rel => exact ⟨_, _, _, _, _, _, _, _, _, _, by unfold advA; rw [if_pos rfl], rfl, rfl, hV3⟩
            case measure =>
              simp only [sliceLen]
              omega
          · go_wp2_with fail
            go_region_held3 (fun w' => w'.cell? ⟨bx, ox, none⟩ = some (.int .i64 xst) ∧ w'.cell? ⟨bx, ox + 1, none⟩ = some (.string xnm) ∧ w'.cell? ⟨bx, ox + 2, none⟩ = some (.string xid) ∧ w'.cell? ⟨bx, ox + 3, none⟩ = some (.int .i64 xkd)) (first | exact hcw.out _ hV3.out.bel | go_keep) ((refine step_append_rw _ (by rfl) _ _ 23 (by rfl) 30 ri _ 4 48 Try.underlying23 hri hri1 hri2 hri3 (by rfl) w.heap.size (some ⟨w.heap.size, 0, none⟩) nd N (flatC dn) (by rfl) z0.out.len z0.out.le z0.out.mx z0.out.rd _ (by rfl) 1 (chgCs ⟨xst, xnm, xid, xkd⟩) hsrc.out (fun _ => z0.out) (by decide) z6.out.1 z6.out.2.1 z6.out.2.2 ?_; intro g2 o2 c2 W3 hA; obtain ⟨eg, eo, ec, hV3⟩ := hstep.out g2 o2 c2 W3 hA; subst eg eo ec; replace hV3 := hid_of hV3; clear hA))
            rename_i hHeld
            clear hHeld hstep hsrc z0
            go_wp2_with fail
            go_roundw
            case rel => exact ⟨_, _, _, _, _, _, _, _, _, _, by unfold advA; rw [if_neg hc1]; simp [add_plain], rfl, rfl, hV3⟩
            case measure =>
              simp only [sliceLen]
              omega
      · have hnil : xs = [] ∨ ys = [] := by
          rcases Nat.eq_zero_or_pos nx with h' | h'
          · exact .inl (List.length_eq_zero_iff.1 (by rw [hV.out.xl]; exact h'))
          · exact .inr (List.length_eq_zero_iff.1 (by rw [hV.out.yl]; exact Nat.eq_zero_of_not_pos (fun h'' => hgo ⟨h', h''⟩)))
        have heq : Hid (dn ++ xs ++ ys = mw la lb) := by
          show _ = _
          rw [← hV.out.eq]
          rcases hnil with rfl | rfl
          · rw [nil_mw]; simp
          · rw [mw_nil]; simp
        have hx1 := hid_of (hV.out.xat.below hV.out.bel)
        have hxl := hid_of hV.out.xl
        have hyl := hid_of hV.out.yl
        have hrow := hid_of hV.out.row
        have hNp : Hid (0 < N ∧ nd + nx ≤ N ∧ nd + nx + ny ≤ N) := ⟨by omega, by omega, by omega⟩
        have hfr : Hid (∀ W1 W2, Below w.heap.size w W1 → Fr (fun q => q = w.heap.size) W1 W2 → Below w.heap.size w W2) := fun W1 W2 h1 h2 => ⟨h2.os.trans h1.os, h2.tape.trans h1.tape, h2.output.trans h1.output, Nat.le_trans h1.size h2.size, fun k hk => (h2.block k (Nat.lt_of_lt_of_le hk h1.size) (fun e => by omega)).trans (h1.block k hk)⟩
        have hbel := hid_of hV.out.bel
        have hyw := hid_of hV.out.yat
        have hfin : Hid (∀ W3, Below w.heap.size w W3 → Rw W3 w.heap.size 4 (some ⟨w.heap.size, 0, none⟩) (nd + nx + ny) N (flatC (dn ++ xs ++ ys)) → MPost w (mw la lb) (.returned (.slice (some ⟨w.heap.size, 0, none⟩) (nd + nx + ny) N)) W3) := fun W3 h1 h2 => by
          have e : nd + nx + ny = N := hs
          rw [heq.out, e] at h2
          rw [e]
          exact ⟨h1, _, _, by rw [hml.out], by rw [hml.out]; exact h2⟩
        have hgo' : (0 < nx → ¬ 0 < ny) := fun h1 h2 => hgo ⟨h1, h2⟩
        clear hV hnil heq hgo hs
        by_cases hx0 : 0 < nx
        · obtain rfl : ny = 0 := by have := hgo' hx0; omega
          clear hgo'
          go_wp2_with (first
            | (at_builtin; refine wpList_append_room wr rfl _ _ rfl w.heap.size w.heap.size 0 nd N dn rfl hrow.out hNp.out.1 _ a' ca' nx xs hxl.out hx1.out rfl hNp.out.2.1 ?_; intro W2 hF2 hR2; have hbel2 := hid_of (hfr.out _ _ hbel.out hF2); replace hR2 := hid_of hR2; clear hF2 hx1 hrow)
            | (at_builtin; refine wpList_append_room W2 rfl _ _ rfl w.heap.size w.heap.size 0 (nd + nx) N (dn ++ xs) rfl hR2.out hNp.out.1 _ b' cb' 0 ys hyl.out (hyw.out.below hbel2.out) rfl hNp.out.2.2 ?_; intro W3 hF3 hR3; have hE3 := hid_of (hfin.out W3 (hfr.out _ _ hbel2.out hF3) hR3); clear hF3 hR3 hR2))
          go_ret
          exact hE3.out
        · obtain rfl : nx = 0 := by omega
          clear hgo'
          go_wp2_with (first
            | (at_builtin; refine wpList_append_room wr rfl _ _ rfl w.heap.size w.heap.size 0 nd N dn rfl hrow.out hNp.out.1 _ a' ca' 0 xs hxl.out hx1.out rfl hNp.out.2.1 ?_; intro W2 hF2 hR2; have hbel2 := hid_of (hfr.out _ _ hbel.out hF2); replace hR2 := hid_of hR2; clear hF2 hx1 hrow)
            | (at_builtin; refine wpList_append_room W2 rfl _ _ rfl w.heap.size w.heap.size 0 (nd + 0) N (dn ++ xs) rfl hR2.out hNp.out.1 _ b' cb' ny ys hyl.out (hyw.out.below hbel2.out) rfl hNp.out.2.2 ?_; intro W3 hF3 hR3; have hE3 := hid_of (hfin.out W3 (hfr.out _ _ hbel2.out hF3) hR3); clear hF3 hR3 hR2))
          go_ret
          exact hE3.out
end Go.Proofs.Ytpdcinicnekeoaa
