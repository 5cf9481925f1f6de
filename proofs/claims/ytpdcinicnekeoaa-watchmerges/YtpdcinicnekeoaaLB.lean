import Derived.Test.YtpdcinicnekeoaaLA
/-! watch: asks. -/
namespace Go.Proofs.Ytpdcinicnekeoaa
open Go Go.RowKit Go.Watch
/-- An act, as a value. -/
def actV (st : Int) (ca : Option Addr) (cn cc : Nat) (ask : Bool) (af lim : Int) (inn : ByteArray) : Value := .agg #[.int .i64 st, .slice ca cn cc, .bool ask, .int .i64 af, .int .i64 lim, .string inn]
theorem toldT_len {k : Nat} {g : Lg} (hok : g.Ok k) (af lim : Int) (inn : ByteArray) : (toldT g af lim inn).length ≤ k := by
  unfold toldT
  split
  · simp
  · rw [List.length_take]
    have := asked_len g.cs af inn
    have := hok.len
    omega
set_option maxHeartbeats 8000000 in
set_option maxRecDepth 100000 in
theorem asks_any {S T : Nat → Prop} {p k : Nat} {g : Lg} {a la : Option Addr} {cap lc : Nat} {w : World} (h : LogAt S w p k g a cap) (hC : ChgsAt T w la g.cs) (hok : g.Ok k) (hk2 : k ≤ 4096) (hbd : ∀ c ∈ g.cs, c.st ≤ 9223372036854775807) (st : Int) (ca : Option Addr) (cn cc : Nat) (ask : Bool) (af lim : Int) (inn : ByteArray) :
    Calls Try.prog 20 #[.pointer (some ⟨p, 0, none⟩), refV k la g.cs.length lc g.hor (lastSt g.cs), actV st ca cn cc ask af lim inn] w fun e w' => e = .returned (.bool true) ∧ Below w.heap.size w w' := by
  obtain ⟨ri, hri, hri1, hri2, hri3⟩ := chg_info
  have hnum := hid_of num_any
  obtain ⟨told, htold⟩ : ∃ t, Hid (toldT g af lim inn = t) := ⟨_, rfl⟩
  obtain ⟨up, hup⟩ : ∃ t, Hid (uptoT g af lim inn = t) := ⟨_, rfl⟩
  obtain ⟨er, her⟩ : ∃ t, Hid (errT g af = t) := ⟨_, rfl⟩
  have htl : told.length ≤ 4096 := by rw [← htold.out]; have := toldT_len hok af lim inn; omega
  obtain ⟨W1, hW1⟩ : ∃ W1, Hid ((w.alloc (.cells #[.int .i64 k, .slice la g.cs.length lc, .int .i64 g.hor, .int .i64 (lastSt g.cs)] 48)).alloc (.cells #[.int .i64 st, .slice ca cn cc, .bool ask, .int .i64 af, .int .i64 lim, .string inn] 40) = W1) := ⟨_, rfl⟩
  have hB1 : Below w.heap.size w W1 := by rw [← hW1.out]; exact ((Below.refl _ w).alloc (Nat.le_refl _) _).alloc (by simp) _
  have hz1 : W1.heap.size = w.heap.size + 2 := by rw [← hW1.out]; simp
  have hx0 : RBox W1 w.heap.size k la g.cs.length lc g.hor (lastSt g.cs) := by
    refine RBox.mk' (t := 48) ?_
    rw [← hW1.out]
    exact (((Below.refl _ (w.alloc _)).alloc (Nat.le_refl _) _).block _ (by simp)).trans (heap_alloc_new w _)
  have hact : W1.heap[w.heap.size + 1]? = some (.cells #[.int .i64 st, .slice ca cn cc, .bool ask, .int .i64 af, .int .i64 lim, .string inn] 40 (0, 0)) := by
    rw [← hW1.out]
    have := heap_alloc_new (w.alloc (.cells #[.int .i64 k, .slice la g.cs.length lc, .int .i64 g.hor, .int .i64 (lastSt g.cs)] 48)) (.cells #[.int .i64 st, .slice ca cn cc, .bool ask, .int .i64 af, .int .i64 lim, .string inn] 40)
    rw [World.size_alloc] at this
    exact this
  have a3 : W1.cell? ⟨w.heap.size + 1, 3, none⟩ = some (.int .i64 af) := by rw [cell_of_row W1 _ 3 _ _ _ hact]; rfl
  have a4 : W1.cell? ⟨w.heap.size + 1, 4, none⟩ = some (.int .i64 lim) := by rw [cell_of_row W1 _ 4 _ _ _ hact]; rfl
  have a5 : W1.cell? ⟨w.heap.size + 1, 5, none⟩ = some (.string inn) := by rw [cell_of_row W1 _ 5 _ _ _ hact]; rfl
  have hL1 := h.below hB1
  have haf := hid_of (fun W (hb : Below W1.heap.size W1 W) => after_any (hL1.below hb) hok hk2 hbd af lim inn)
  have hra := hid_of (fun W (hb : Below W1.heap.size W1 W) => rafter_any (cap := lc) ((hC.below hB1).below hb) hok hk2 af lim inn)
  rw [htold.out, hup.out, her.out] at haf hra
  obtain ⟨L, hL⟩ : ∃ L, Hid (g.cs.length = L) := ⟨_, rfl⟩
  obtain ⟨x, hx⟩ : ∃ x, Hid (lastSt g.cs = x) := ⟨_, rfl⟩
  have hLw := hid_of h
  rw [hL.out, hx.out] at hW1 hx0 hra
  rw [hL.out, hx.out]
  unfold refV at hra
  obtain ⟨n, hn⟩ : ∃ n, Hid (told.length = n) := ⟨_, rfl⟩
  have htl' : n ≤ 4096 := by rw [← hn.out]; exact htl
  unfold refV actV
  replace hB1 := hid_of hB1
  replace hz1 := hid_of hz1
  clear hact hL1 h hC htl
  go_enter Try.func20, Try.ntmps20
  go_wp2_with (rw [hW1.out])
  refine (haf.out W1 (Below.refl _ W1)).mono ?_
  rintro e W2 ⟨hB2, xa, xc, rfl, hR2⟩
  have y3 := stay hB2 a3
  have y4 := stay hB2 a4
  have y5 := stay hB2 a5
  have h2 := hid_of (haf.out W2 hB2)
  replace hx0 := hx0.keep (hB2.block _ (by have := hz1.out; omega))
  rw [hn.out] at hR2 ⊢
  have hR2c : ∀ b', 0 < xc → blkOf xa b' → b' < W2.heap.size := fun b' h0 hb' => by
    rcases hR2.pt with h1 | ⟨b3, o3, e3, -, h3, -⟩
    · omega
    · obtain ⟨o4, s4, e4⟩ := hb'
      rw [e3] at e4
      cases e4
      exact h3
  replace hR2 := hid_of hR2
  replace hR2c := hid_of hR2c
  replace hB2 := hid_of hB2
  clear haf a3 a4 a5 hW1
  go_wp2_with fail
  refine h2.out.mono ?_
  rintro e W3 ⟨hB3, ya, yc, rfl, hR3⟩
  rw [hn.out] at hR3 ⊢
  have hB13 : Below W1.heap.size W1 W3 := hB2.out.trans (hB3.mono hB2.out.size)
  have h3 := hid_of (hra.out W3 hB13)
  replace y3 := stay hB3 y3
  replace y4 := stay hB3 y4
  replace y5 := stay hB3 y5
  replace hx0 := hx0.keep (hB3.block _ (by have := hz1.out; have := hB2.out.size; omega))
  obtain ⟨e0, e1, e2, e3, -⟩ := hx0
  replace hB13 := hid_of hB13
  replace hR3 := hid_of hR3
  replace hB3 := hid_of hB3
  clear h2 hra
  go_wp2_with fail
  refine h3.out.mono ?_
  rintro e W4 ⟨hB4, za, zc, rfl, hZ4, hz1c, hz2c⟩
  rw [hn.out] at hz1c ⊢
  have hX4 := hid_of ((hR2.out.below hB3.out).below hB4)
  have hY4 := hid_of (hR3.out.below hB4)
  replace hZ4 := hid_of hZ4
  replace e0 := stay hB4 e0
  replace e1 := stay hB4 e1
  replace e2 := stay hB4 e2
  replace e3 := stay hB4 e3
  have hch1 := hid_of (fun W (hb : Below W4.heap.size W4 W) => changes_true (ca := xc) (cb := zc) ((hX4.out.below hb).chgs) (hZ4.out.below hb) (by rw [hn.out]; omega))
  have hch2 := hid_of (fun W (hb : Below W4.heap.size W4 W) => changes_true (ca := yc) (cb := zc) ((hY4.out.below hb).chgs) (hZ4.out.below hb) (by rw [hn.out]; omega))
  rw [hn.out] at hch1 hch2
  have hB14 : Hid (Below W1.heap.size W1 W4) := hB13.out.trans (hB4.mono hB13.out.size)
  have hB24 : Hid (Below W2.heap.size W2 W4) := hB3.out.trans (hB4.mono hB3.out.size)
  replace hB4 := hid_of hB4
  clear h3 y3 y4 y5 hR2 hR3
  go_wp2_with fail
  refine (hnum.out _ _).mono ?_
  rintro e Z ⟨rfl, hZ⟩
  obtain rfl : W4 = Z := hZ.symm
  clear hZ
  go_wp2_with fail
  refine (hch1.out W4 (Below.refl _ W4)).mono ?_
  rintro e Z ⟨rfl, m1, rfl⟩
  clear hch1
  go_wp2_with fail
  refine (hch2.out _ (below_drewN (Below.refl _ W4) m1)).mono ?_
  rintro e Z ⟨rfl, m2, hZ⟩
  obtain ⟨W5, hW5⟩ : ∃ W5, Hid ((W4.drewN m1).drewN m2 = W5) := ⟨_, rfl⟩
  have hB5 : Below W4.heap.size W4 W5 := by rw [← hW5.out]; exact below_drewN (below_drewN (Below.refl _ W4) m1) m2
  have hs5 : W5.heap.size = W4.heap.size := by rw [← hW5.out]; rfl
  obtain rfl : W5 = Z := by rw [hZ]; exact hW5.out.symm
  have hrm : Rm W5 (w.heap.size + 2) 4 xa n xc := by
    have := (hX4.out.below hB5).rm
    rw [hz1.out] at this
    exact this
  have hsp := hid_of (Spl.begin (B0 := w.heap.size + 2) (B1 := W2.heap.size) hrm (fun h0 b' hb' => hR2c.out b' h0 hb'))
  have hB05 : Hid (Below w.heap.size w W5) := (hB1.out.trans (hB14.out.mono hB1.out.size)).trans (hB5.mono (hB1.out.trans (hB14.out.mono hB1.out.size)).size)
  have hfar := hid_of (fun W xa' n' c' (hS : Spl (w.heap.size + 2) W2.heap.size W5 W xa' n' c') => (⟨(hY4.out.below hB5).chgs.keep (fun q hq hlt => hS.far q hlt (.inr hq)), (hZ4.out.below hB5).keep (fun q hq hlt => hS.far q hlt (.inr (Nat.le_trans hB3.out.size hq))), hLw.out.below (hB05.out.trans ((hS.below (by have := hB05.out.size; have := hs5; have := hB14.out.size; have := hz1.out; omega)).mono (by omega)))⟩ : ChgsAt (fun b => W2.heap.size ≤ b) W ya told ∧ ChgsAt (fun b => W3.heap.size ≤ b) W za told ∧ LogAt S W p k g a cap))
  have hbox : Hid (∀ W xa' n' c', Spl (w.heap.size + 2) W2.heap.size W5 W xa' n' c' → W.cell? ⟨w.heap.size, 1, none⟩ = some (.slice la L lc) ∧ W.cell? ⟨w.heap.size, 2, none⟩ = some (.int .i64 g.hor) ∧ W.cell? ⟨w.heap.size, 3, none⟩ = some (.int .i64 x)) := fun W xa' n' c' hS => by
    have hk := hS.far w.heap.size (by have := hB05.out.size; have := hs5; have := hB14.out.size; have := hz1.out; omega) (.inl (by omega))
    have c : ∀ i : Nat, W.cell? ⟨w.heap.size, i, none⟩ = W5.cell? ⟨w.heap.size, i, none⟩ := fun i => World.cell?_of_block (w := W5) (a := ⟨w.heap.size, i, none⟩) hk
    exact ⟨(c 1).trans (stay hB5 e1), (c 2).trans (stay hB5 e2), (c 3).trans (stay hB5 e3)⟩
  have hend : Hid (∀ W xa' n' c' q, Spl (w.heap.size + 2) W2.heap.size W5 W xa' n' c' → Below w.heap.size w (W.drewN q)) := fun W xa' n' c' q hS => below_drewN (hB05.out.trans ((hS.below (by have := hB05.out.size; have := hs5; have := hB14.out.size; have := hz1.out; omega)).mono (by omega))) q
  have hs5' : Hid (w.heap.size + 2 ≤ W5.heap.size) := by show _ ≤ _; have := hB14.out.size; have := hz1.out; omega
  clear hZ hch2 hW5 hrm hB5 hs5 e0 e1 e2 e3 hX4 hY4 hZ4 hB1 hB2 hB3 hB13 hB14 hB24 hB4 hR2c hz1 hB05 hLw
  go_wp2_with fail
  go_loopw [16] (fun iv wr => ∃ i : Nat, iv = .int .i64 (i : Nat) ∧ i ≤ n ∧ Hid (Spl (w.heap.size + 2) W2.heap.size W5 wr xa n xc)) (fun iv _ => n - (intOf iv).toNat)
  case atStart => exact ⟨0, rfl, Nat.zero_le _, hsp⟩
  case round =>
    clear hsp
    obtain ⟨i, rfl, hin, hS⟩ := hrel
    by_cases hi : i < n
    · have hx0 : 0 < xc := by have := hS.out.row.le; omega
      obtain ⟨b, o, hae, -, -, hth⟩ := hS.out.row.pt.resolve_left (by omega)
      have hle := hS.out.row.le
      obtain ⟨v0, d0⟩ := Option.isSome_iff_exists.1 (hth (i * 4) (by omega)).1
      obtain ⟨v1, d1⟩ := Option.isSome_iff_exists.1 (hth (i * 4 + 1) (by omega)).1
      obtain ⟨v2, d2⟩ := Option.isSome_iff_exists.1 (hth (i * 4 + 2) (by omega)).1
      obtain ⟨v3, d3⟩ := Option.isSome_iff_exists.1 (hth (i * 4 + 3) (by omega)).1
      have f0 := (hth (i * 4) (by omega)).2
      have f1 := (hth (i * 4 + 1) (by omega)).2
      have f2 := (hth (i * 4 + 2) (by omega)).2
      have f3 := (hth (i * 4 + 3) (by omega)).2
      rw [← Nat.add_assoc] at d1 d2 d3 f1 f2 f3
      have hS2 := hid_of (hS.out.store hae hx0 (o + i * 4) [.int .i64 99, .string ⟨#[]⟩, .string ⟨#[]⟩, .int .i64 0])
      subst hae
      clear hth
      go_wp2_with fail
      go_roundw
      case rel => exact ⟨i + 1, by go_num, by omega, hS2⟩
      case measure =>
        simp only [intOf]
        omega
    · obtain rfl : i = n := by omega
      go_wp2_with fail
      go_loopw [7, 17] (fun sv jv wr => ∃ (j : Nat) (xa' : Option Addr) (c' : Nat), jv = .int .i64 (j : Nat) ∧ sv = .slice xa' (i + j) c' ∧ j ≤ 8 ∧ Hid (Spl (w.heap.size + 2) W2.heap.size W5 wr xa' (i + j) c')) (fun _ jv _ => 8 - (intOf jv).toNat)
      case atStart => exact ⟨0, xa, xc, rfl, rfl, by decide, hS⟩
      case round =>
        clear hS
        obtain ⟨j, xa', c', rfl, rfl, hj8, hS⟩ := hrel
        by_cases hj : j < 8
        · obtain ⟨zs, hzs⟩ := hS.out.row.rw
          obtain ⟨Wb, hWb⟩ : ∃ Wb, Hid (wr.alloc (.cells #[.int .i64 98, .string ⟨#[]⟩, .string ⟨#[]⟩, .int .i64 0] 30) = Wb) := ⟨_, rfl⟩
          have hBb : Below wr.heap.size wr Wb := by rw [← hWb.out]; exact (Below.refl _ wr).alloc (Nat.le_refl _) _
          have hsrc : Src Try.prog 4 23 (.slice (some ⟨wr.heap.size, 0, none⟩) 1 1) 1 (chgCs ⟨98, ⟨#[]⟩, ⟨#[]⟩, 0⟩) Wb := by
            rw [← hWb.out]
            exact Src.of_block (cs := #[.int .i64 98, .string ⟨#[]⟩, .string ⟨#[]⟩, .int .i64 0]) Try.underlying23 (heap_alloc_new wr _) 1 1 rfl (fun u hu => flatC_one [⟨98, ⟨#[]⟩, ⟨#[]⟩, 0⟩] u (by simpa [flatC, chgCs] using hu))
          have x0 := hid_of (hzs.below hBb)
          have x6 : Hid (i + j + 1 ≤ maxLen ∧ (i + j + 1) * 48 ≤ 140737488355328 ∧ w.heap.size + 2 ≤ Wb.heap.size) := by
            have := hBb.size
            have := hS.out.sz
            have := hs5'.out
            unfold maxLen
            exact ⟨by omega, by omega, by omega⟩
          have hstep := hid_of (fun g2 o2 c2 W6 ys hA => hS.out.append (W2 := Wb) (W3 := W6) (ys := ys) (g := g2) (o := o2) (c := c2) hBb hA)
          clear hzs hBb hS
          go_wp2_with (first
            | rw [hWb.out]
            | (at_builtin; go_must (refine wpList_append_rw Wb rfl _ _ 23 rfl 30 ri _ 4 48 Try.underlying23 hri hri1 hri2 hri3 rfl (w.heap.size + 2) xa' (i + j) c' zs rfl x0.out.len x0.out.le x0.out.mx x0.out.rd _ rfl 1 (chgCs ⟨98, ⟨#[]⟩, ⟨#[]⟩, 0⟩) hsrc (fun _ => x0.out) (by decide) x6.out.1 x6.out.2.1 x6.out.2.2 ?_); intro g2 o2 c2 W6 hA; have hS6 := hid_of (hstep.out g2 o2 c2 W6 _ hA); clear hA hsrc hstep x0))
          go_roundw
          case rel => exact ⟨j + 1, _, _, by go_num, rfl, by omega, hS6⟩
          case measure =>
            simp only [intOf]
            omega
        · obtain rfl : j = 8 := by omega
          obtain ⟨q1, q2, q3⟩ := hfar.out wr _ _ _ hS.out
          obtain ⟨e1, e2, e3⟩ := hbox.out wr _ _ _ hS.out
          have hd : ∀ m, Below wr.heap.size wr (wr.drewN m) := fun m => below_drewN (Below.refl _ wr) m
          have k1 := hid_of (fun m => changes_true (ca := yc) (cb := zc) (q1.below (hd m)) (q2.below (hd m)) (by rw [hn.out]; omega))
          rw [hn.out] at k1
          have k2 := hid_of (fun m => hor_any (q3.below (hd m)))
          have k3 := hid_of (fun m => last_any (q3.below (hd m)))
          have k4 := hid_of (fun m => size_any (q3.below (hd m)))
          rw [hx.out] at k3
          rw [hL.out] at k4
          have hfin := hid_of (fun m => hend.out wr _ _ _ m hS.out)
          clear q1 q2 q3 hd hS
          go_wp2_with fail
          go_quiet (first | (go_at_call 16; exact Calls.quiet_of (k1.out _)) | (go_at_call 11; exact Calls.quiet_of_same (k2.out _)) | (go_at_call 12; exact Calls.quiet_of (k3.out _)) | (go_at_call 13; exact Calls.quiet_of_same (k4.out _)))
          go_wp2_with fail
          go_ret
          exact ⟨rfl, hfin.out _⟩
end Go.Proofs.Ytpdcinicnekeoaa
