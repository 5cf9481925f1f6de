import Derived.Test.YtdgdfpgekccibaaFS
/-! ClocksOrder. -/
namespace Go.Proofs.Ytdgdfpgekccibaa
open Go Go.ChangeShapes Go.WideShapes Go.ChangeAt Go.RowKit
/-- own and then Before. -/
theorem before_own (a : Option Addr) (cap : Nat) (evs : List Ev) (clients : Int) (i j : Nat) (w : World) (hE : EvsAt w a evs) (hl : (evs.length + 8) * 32 ≤ 140737488355328) (hwf : ∀ e ∈ evs, I64 e.o ∧ I64 e.n) (t : Bool) (ht : beforeB evs clients i j = t) : Calls Try.prog 13 #[.slice a evs.length cap] w fun e w' => Below w.heap.size w w' ∧ ∃ g c, e = .returned (.slice (some ⟨g, 0, none⟩) evs.length c) ∧ Calls Try.prog 14 #[.slice (some ⟨g, 0, none⟩) evs.length c, .int .i64 clients, .int .i64 i, .int .i64 j] w' fun e w'' => e = .returned (.bool t) ∧ Below w.heap.size w w'' := by
  refine (own_wide a cap evs w hE hl).mono ?_
  rintro e w' ⟨hB, g, c, rfl, hE', hc, hc'⟩
  refine ⟨hB, g, c, rfl, (before_any (some ⟨g, 0, none⟩) c evs clients i j w' hE' hc hc' hwf).mono ?_⟩
  rintro e w'' ⟨rfl, hB'⟩
  exact ⟨by rw [ht], hB.trans (hB'.mono hB.size)⟩
set_option maxHeartbeats 16000000 in
set_option maxRecDepth 100000 in
theorem order_true (a : Option Addr) (cap : Nat) (evs : List Ev) (clients i j k : Int) (w : World) (hE : EvsAt w a evs) (_hcap : evs.length ≤ cap) (hwf : ∀ e ∈ evs, I64 e.o ∧ I64 e.n) (hsz : (evs.length + 8) * 32 ≤ 140737488355328) :
    Calls Try.prog 5 #[.slice a evs.length cap, .int .i64 clients, .int .i64 i, .int .i64 j, .int .i64 k] w fun e w' => e = .returned (.bool true) ∧ Below w.heap.size w w' := by
  obtain ⟨n, hn⟩ : ∃ n, Hid (evs.length = n) := ⟨_, rfl⟩
  have o1 := hid_of (own_wide a cap evs w hE hsz)
  have hsz' := hid_of hsz
  rw [hn.out] at _hcap hsz o1 ⊢
  replace hE := hid_of hE
  replace hwf := hid_of hwf
  have hnum := hid_of num_any
  go_enter Try.func5, Try.ntmps5
  go_wp2_with fail
  refine o1.out.mono ?_
  clear o1
  rintro e W1 ⟨hB1, g1, c1, rfl, hE1, hc1, hc1'⟩
  have k1 := hid_of (clocks_any (some ⟨g1, 0, none⟩) c1 evs clients W1 hE1 (by rw [hn.out]; exact hc1) (by rw [hn.out]; omega) hwf.out)
  rw [hn.out] at k1
  clear hE1
  go_wp2_with fail
  refine k1.out.mono ?_
  clear k1
  rintro e W2 ⟨hB2, hpost⟩
  have hB02 : Hid (Below w.heap.size w W2) := hB1.trans (hB2.mono hB1.size)
  have hlv := hid_of (live_any W2)
  have hfin : Hid (∀ Z, Below W2.heap.size W2 Z → Below w.heap.size w Z) := fun Z hZ => hB02.out.trans (hZ.mono hB02.out.size)
  clear hB1 hB2
  rcases hpost with ⟨hne, rfl⟩ | ⟨h0, g, G, rfl, hC⟩
  · have hne' : (chk evs clients != 0) = true := by simp [hne]
    by_cases hl : 200 < n
    · go_wp2_with fail
      refine hlv.out.mono ?_
      rintro e Z ⟨rfl, hZ⟩
      go_wp2_with fail
      exact bodyPost_ret (v := .bool true) (by simp [results, Try.results5, go_sem]) rfl ⟨rfl, hfin.out Z hZ⟩
    · go_wp2_with fail
      refine (hnum.out _ W2).mono ?_
      rintro e Z ⟨rfl, hz⟩
      obtain rfl : W2 = Z := hz.symm
      clear hz
      go_wp2_with fail
      refine hlv.out.mono ?_
      rintro e Z ⟨rfl, hZ⟩
      go_wp2_with fail
      exact bodyPost_ret (v := .bool true) (by simp [results, Try.results5, go_sem]) rfl ⟨rfl, hfin.out Z hZ⟩
  · rw [hn.out] at hC ⊢
    by_cases hl : 200 < n
    · go_wp2_with fail
      refine hlv.out.mono ?_
      rintro e Z ⟨rfl, hZ⟩
      go_wp2_with fail
      exact bodyPost_ret (v := .bool true) (by simp [results, Try.results5, go_sem]) rfl ⟨rfl, hfin.out Z hZ⟩
    have hl200 : n ≤ 200 := by omega
    go_upto_region 4 with fail
    refine (hnum.out _ W2).mono ?_
    rintro e Z ⟨rfl, hz⟩
    obtain rfl : W2 = Z := hz.symm
    clear hz hnum
    go_upto_region 7 with fail
    by_cases q1 : i < 0
    · go_wp2_with fail
      refine hlv.out.mono ?_
      rintro e Z ⟨rfl, hZ⟩
      go_wp2_with fail
      exact bodyPost_ret (v := .bool true) (by simp [results, Try.results5, go_sem]) rfl ⟨rfl, hfin.out Z hZ⟩
    by_cases q2 : j < 0
    · go_wp2_with fail
      refine hlv.out.mono ?_
      rintro e Z ⟨rfl, hZ⟩
      go_wp2_with fail
      exact bodyPost_ret (v := .bool true) (by simp [results, Try.results5, go_sem]) rfl ⟨rfl, hfin.out Z hZ⟩
    by_cases q3 : k < 0
    · go_wp2_with fail
      refine hlv.out.mono ?_
      rintro e Z ⟨rfl, hZ⟩
      go_wp2_with fail
      exact bodyPost_ret (v := .bool true) (by simp [results, Try.results5, go_sem]) rfl ⟨rfl, hfin.out Z hZ⟩
    by_cases q4 : (n : Int) ≤ i
    · go_wp2_with fail
      refine hlv.out.mono ?_
      rintro e Z ⟨rfl, hZ⟩
      go_wp2_with fail
      exact bodyPost_ret (v := .bool true) (by simp [results, Try.results5, go_sem]) rfl ⟨rfl, hfin.out Z hZ⟩
    by_cases q5 : (n : Int) ≤ j
    · go_wp2_with fail
      refine hlv.out.mono ?_
      rintro e Z ⟨rfl, hZ⟩
      go_wp2_with fail
      exact bodyPost_ret (v := .bool true) (by simp [results, Try.results5, go_sem]) rfl ⟨rfl, hfin.out Z hZ⟩
    by_cases q6 : (n : Int) ≤ k
    · go_wp2_with fail
      refine hlv.out.mono ?_
      rintro e Z ⟨rfl, hZ⟩
      go_wp2_with fail
      exact bodyPost_ret (v := .bool true) (by simp [results, Try.results5, go_sem]) rfl ⟨rfl, hfin.out Z hZ⟩
    obtain ⟨i, rfl⟩ := Int.eq_ofNat_of_zero_le (a := i) (by omega)
    obtain ⟨j, rfl⟩ := Int.eq_ofNat_of_zero_le (a := j) (by omega)
    obtain ⟨k, rfl⟩ := Int.eq_ofNat_of_zero_le (a := k) (by omega)
    have hi : i < n := by omega
    have hj : j < n := by omega
    have hk : k < n := by omega
    have hil : Hid (i < evs.length ∧ j < evs.length ∧ k < evs.length) := by unfold Hid; rw [hn.out]; omega
    obtain ⟨e, he⟩ : ∃ e, Hid (evs[i]? = some e) := ⟨evs[i]'hil.out.1, List.getElem?_eq_getElem hil.out.1⟩
    obtain ⟨c1', c2', c3', c4'⟩ := chk_ok h0
    obtain ⟨e1, e2, e3⟩ := ok_c (c4' e (List.mem_of_getElem? he.out)) c2'
    obtain ⟨at', hat⟩ : ∃ at' : Nat, Hid (e.c = (at' : Int)) := Int.eq_ofNat_of_zero_le e1
    have hat' : Hid (e.c.toNat = at') := by unfold Hid; rw [hat.out]; rfl
    obtain ⟨nc, hnc⟩ : ∃ nc, Hid (clients.toNat = nc) := ⟨_, rfl⟩
    have hac : at' < nc := by
      have h1 := hat.out
      have h2 := hnc.out
      omega
    have hnc16 : nc ≤ 16 := by have := hnc.out; omega
    rw [hnc.out] at hC
    have hread := before_read h0 he.out hil.out.2.1
    rw [hat'.out] at hread
    obtain ⟨ei, hei⟩ : ∃ x, Hid (clkAt evs i at' = x) := ⟨_, rfl⟩
    obtain ⟨ej, hej⟩ : ∃ x, Hid (clkAt evs j at' = x) := ⟨_, rfl⟩
    rw [hei.out, hej.out] at hread
    have s0 : W2.cell? ⟨g, i, none⟩ = some (.slice (some ⟨G i, 0, none⟩) nc nc) := hC.row.cell hi
    have s1 : W2.cell? ⟨g, j, none⟩ = some (.slice (some ⟨G j, 0, none⟩) nc nc) := hC.row.cell hj
    have s2 : W2.cell? ⟨G i, at', none⟩ = some (.int .i64 (ei : Nat)) := by have := (hC.each i hi).2.2.cell hac; rw [this, ← hei.out]; rfl
    have s3 : W2.cell? ⟨G j, at', none⟩ = some (.int .i64 (ej : Nat)) := by have := (hC.each j hj).2.2.cell hac; rw [this, ← hej.out]; rfl
    have hii : Hid (beforeB evs clients i i = false) := before_not (by omega)
    replace s0 := hid_of s0
    replace s1 := hid_of s1
    replace s2 := hid_of s2
    replace s3 := hid_of s3
    have h0' := hid_of h0
    clear hC e1 e2 e3 c1' c2' c3' c4' h0 hlv q1 q2 q3 q4 q5 q6 hei hej
    have hfr : Hid (∀ X, Below W2.heap.size W2 X → EvsAt X a evs) := fun X hX => hE.out.keep (hfin.out X hX)
    go_upto_region 9 with fail
    by_cases hij : i = j
    · obtain ⟨t2, ht2⟩ : ∃ t, Hid (beforeB evs clients j k = t) := ⟨_, rfl⟩
      obtain ⟨t3, ht3⟩ : ∃ t, Hid (beforeB evs clients i k = t) := ⟨_, rfl⟩
      have ht1 : Hid (beforeB evs clients i j = false) := before_not (by omega)
      clear hread
      replace hij := hid_of hij
      have b1 := before_own a cap evs clients i j W2 (hfr.out W2 (Below.refl _ W2)) hsz'.out hwf.out _ ht1.out
      rw [hn.out] at b1
      replace b1 := hid_of b1
      go_upto_region 10 with fail
      refine b1.out.mono ?_
      clear b1
      rintro e Xo ⟨hBo, gg1, cc1, rfl, kk1⟩
      replace kk1 := hid_of kk1
      clear hBo
      go_upto_region 10 with fail
      refine kk1.out.mono ?_
      clear kk1
      rintro e X1 ⟨rfl, hBn1⟩
      have l1 : Hid (Below W2.heap.size W2 X1) := hBn1
      clear hBn1
      have b2 := before_own a cap evs clients j k X1 (hfr.out X1 l1.out) hsz'.out hwf.out _ ht2.out
      rw [hn.out] at b2
      replace b2 := hid_of b2
      go_upto_region 11 with fail
      refine b2.out.mono ?_
      clear b2
      rintro e Xo ⟨hBo, gg2, cc2, rfl, kk2⟩
      replace kk2 := hid_of kk2
      clear hBo
      go_upto_region 11 with fail
      refine kk2.out.mono ?_
      clear kk2
      rintro e X2 ⟨rfl, hBn2⟩
      have l2 : Hid (Below W2.heap.size W2 X2) := l1.out.trans (hBn2.mono l1.out.size)
      clear hBn2
      have b3 := before_own a cap evs clients i k X2 (hfr.out X2 l2.out) hsz'.out hwf.out _ ht3.out
      rw [hn.out] at b3
      replace b3 := hid_of b3
      go_upto_region 12 with fail
      refine b3.out.mono ?_
      clear b3
      rintro e Xo ⟨hBo, gg3, cc3, rfl, kk3⟩
      replace kk3 := hid_of kk3
      clear hBo
      go_upto_region 12 with fail
      refine kk3.out.mono ?_
      clear kk3
      rintro e X3 ⟨rfl, hBn3⟩
      have l3 : Hid (Below W2.heap.size W2 X3) := l2.out.trans (hBn3.mono l2.out.size)
      clear hBn3
      go_upto_region 12 with fail
      have b4 := before_own a cap evs clients i i X3 (hfr.out X3 l3.out) hsz'.out hwf.out _ hii.out
      rw [hn.out] at b4
      replace b4 := hid_of b4
      go_wp2_with fail
      refine b4.out.mono ?_
      clear b4
      rintro e Xo ⟨hBo, gg4, cc4, rfl, kk4⟩
      replace kk4 := hid_of kk4
      clear hBo
      go_wp2_with fail
      refine kk4.out.mono ?_
      clear kk4
      rintro e X4 ⟨rfl, hBn4⟩
      have l4 : Hid (Below W2.heap.size W2 X4) := l3.out.trans (hBn4.mono l3.out.size)
      clear hBn4
      obtain ⟨b, o, ha', hb', x0, x1, x2, x3⟩ := (hfr.out X4 l4.out) i _ he.out
      subst ha'
      rw [hat.out] at x0
      have y0 := stay l4.out s0.out
      have y1 := stay l4.out s1.out
      have y2 := stay l4.out s2.out
      have y3 := stay l4.out s3.out
      have hlv := hid_of (fun X => live_any X)
      clear x1 x2 x3 hb'
      go_upto_region 17 with fail
      obtain rfl := hij.out
      clear hij y0 y1 y2 y3 x0 s0 s1 s2 s3 ht1 ht2 ht3 hii he hat hat' hil hnc hac hnc16 hfr hsz' hE hwf h0' hn hi hj hk hl hl200 hsz _hcap l1 l2 l3 hB02
      refine wp_region_noPanic ?_
      refine wp_region_held_drew (S := fun _ => True) (by kernel_rfl) trivial (fun hHeld => ?_)
      refine wpAnyH_take (i := 0) (v := .bool false) rfl (by kernel_rfl) (by kernel_rfl) (by kernel_rfl) (fun _ _ _ h => (h : False).elim) (Or.inl ⟨by rfl, (by intro w' _; go_simp)⟩) hHeld ?_
      simp only [Act.put, List.getElem_toArray, List.getElem_cons_zero, List.setIfInBounds_toArray, List.set_cons_zero, List.set_cons_succ]
      refine wpAnyH_take (i := 1) (v := .int .i64 (i : Int)) rfl (by kernel_rfl) (by kernel_rfl) (by kernel_rfl) (fun _ _ _ h => (h : False).elim) (Or.inl ⟨by rfl, (by intro w' _; go_simp)⟩) hHeld ?_
      simp only [Act.put, List.getElem_toArray, List.getElem_cons_zero, List.getElem_cons_succ, List.setIfInBounds_toArray, List.set_cons_zero, List.set_cons_succ]
      refine wpAnyH_take (i := 2) (v := .int .i64 (i : Int)) rfl (by kernel_rfl) (by kernel_rfl) (by kernel_rfl) (fun _ _ _ h => (h : False).elim) (Or.inl ⟨by rfl, (by intro w' _; go_simp)⟩) hHeld ?_
      simp only [Act.put, List.getElem_toArray, List.getElem_cons_zero, List.getElem_cons_succ, List.setIfInBounds_toArray, List.set_cons_zero, List.set_cons_succ]
      refine wpAnyH_take (i := 3) (v := .bool false) rfl (by kernel_rfl) (by kernel_rfl) (by kernel_rfl) (fun _ _ _ h => (h : False).elim) (Or.inl ⟨by rfl, (by intro w' _; go_simp)⟩) hHeld ?_
      simp only [Act.put, List.getElem_toArray, List.getElem_cons_zero, List.getElem_cons_succ, List.setIfInBounds_toArray, List.set_cons_zero, List.set_cons_succ]
      refine wpAnyH_take (i := 4) (v := .bool false) rfl (by kernel_rfl) (by kernel_rfl) (by kernel_rfl) (fun _ _ _ h => (h : False).elim) (Or.inl ⟨by rfl, (by intro w' _; go_simp)⟩) hHeld ?_
      simp only [Act.put, List.getElem_toArray, List.getElem_cons_zero, List.getElem_cons_succ, List.setIfInBounds_toArray, List.set_cons_zero, List.set_cons_succ]
      refine wpAnyH_take (i := 5) (v := undef) rfl (by kernel_rfl) (by kernel_rfl) (by kernel_rfl) (fun _ _ _ h => (h : False).elim) (Or.inr ⟨by rfl, rfl⟩) hHeld ?_
      simp only [Act.put, List.getElem_toArray, List.getElem_cons_zero, List.getElem_cons_succ, List.setIfInBounds_toArray, List.set_cons_zero, List.set_cons_succ]
      refine wpAnyH_take (i := 6) (v := undef) rfl (by kernel_rfl) (by kernel_rfl) (by kernel_rfl) (fun _ _ _ h => (h : False).elim) (Or.inr ⟨by rfl, rfl⟩) hHeld ?_
      simp only [Act.put, List.getElem_toArray, List.getElem_cons_zero, List.getElem_cons_succ, List.setIfInBounds_toArray, List.set_cons_zero, List.set_cons_succ]
      refine wpAnyH_take (i := 7) (v := undef) rfl (by kernel_rfl) (by kernel_rfl) (by kernel_rfl) (fun _ _ _ h => (h : False).elim) (Or.inr ⟨by rfl, rfl⟩) hHeld ?_
      simp only [Act.put, List.getElem_toArray, List.getElem_cons_zero, List.getElem_cons_succ, List.setIfInBounds_toArray, List.set_cons_zero, List.set_cons_succ]
      refine wpAnyH_take (i := 8) (v := undef) rfl (by kernel_rfl) (by kernel_rfl) (by kernel_rfl) (fun _ _ _ h => (h : False).elim) (Or.inr ⟨by rfl, rfl⟩) hHeld ?_
      simp only [Act.put, List.getElem_toArray, List.getElem_cons_zero, List.getElem_cons_succ, List.setIfInBounds_toArray, List.set_cons_zero, List.set_cons_succ]
      refine wpAnyH_take (i := 9) (v := undef) rfl (by kernel_rfl) (by kernel_rfl) (by kernel_rfl) (fun _ _ _ h => (h : False).elim) (Or.inr ⟨by rfl, rfl⟩) hHeld ?_
      simp only [Act.put, List.getElem_toArray, List.getElem_cons_zero, List.getElem_cons_succ, List.setIfInBounds_toArray, List.set_cons_zero, List.set_cons_succ]
      refine wpAnyH_take (i := 10) (v := undef) rfl (by kernel_rfl) (by kernel_rfl) (by kernel_rfl) (fun _ _ _ h => (h : False).elim) (Or.inr ⟨by rfl, rfl⟩) hHeld ?_
      simp only [Act.put, List.getElem_toArray, List.getElem_cons_zero, List.getElem_cons_succ, List.setIfInBounds_toArray, List.set_cons_zero, List.set_cons_succ]
      refine wpAnyH_take (i := 11) (v := undef) rfl (by kernel_rfl) (by kernel_rfl) (by kernel_rfl) (fun _ _ _ h => (h : False).elim) (Or.inr ⟨by rfl, rfl⟩) hHeld ?_
      simp only [Act.put, List.getElem_toArray, List.getElem_cons_zero, List.getElem_cons_succ, List.setIfInBounds_toArray, List.set_cons_zero, List.set_cons_succ]
      refine wpAnyH_take (i := 12) (v := undef) rfl (by kernel_rfl) (by kernel_rfl) (by kernel_rfl) (fun _ _ _ h => (h : False).elim) (Or.inr ⟨by rfl, rfl⟩) hHeld ?_
      simp only [Act.put, List.getElem_toArray, List.getElem_cons_zero, List.getElem_cons_succ, List.setIfInBounds_toArray, List.set_cons_zero, List.set_cons_succ]
      refine wpAnyH_take (i := 13) (v := undef) rfl (by kernel_rfl) (by kernel_rfl) (by kernel_rfl) (fun _ _ _ h => (h : False).elim) (Or.inr ⟨by rfl, rfl⟩) hHeld ?_
      simp only [Act.put, List.getElem_toArray, List.getElem_cons_zero, List.getElem_cons_succ, List.setIfInBounds_toArray, List.set_cons_zero, List.set_cons_succ]
      refine wpAnyH_take (i := 14) (v := undef) rfl (by kernel_rfl) (by kernel_rfl) (by kernel_rfl) (fun _ _ _ h => (h : False).elim) (Or.inr ⟨by rfl, rfl⟩) hHeld ?_
      simp only [Act.put, List.getElem_toArray, List.getElem_cons_zero, List.getElem_cons_succ, List.setIfInBounds_toArray, List.set_cons_zero, List.set_cons_succ]
      refine wpAnyH_take (i := 15) (v := undef) rfl (by kernel_rfl) (by kernel_rfl) (by kernel_rfl) (fun _ _ _ h => (h : False).elim) (Or.inr ⟨by rfl, rfl⟩) hHeld ?_
      simp only [Act.put, List.getElem_toArray, List.getElem_cons_zero, List.getElem_cons_succ, List.setIfInBounds_toArray, List.set_cons_zero, List.set_cons_succ]
      refine wpAnyH_take (i := 16) (v := undef) rfl (by kernel_rfl) (by kernel_rfl) (by kernel_rfl) (fun _ _ _ h => (h : False).elim) (Or.inr ⟨by rfl, rfl⟩) hHeld ?_
      simp only [Act.put, List.getElem_toArray, List.getElem_cons_zero, List.getElem_cons_succ, List.setIfInBounds_toArray, List.set_cons_zero, List.set_cons_succ]
      refine wpAnyH_take (i := 17) (v := undef) rfl (by kernel_rfl) (by kernel_rfl) (by kernel_rfl) (fun _ _ _ h => (h : False).elim) (Or.inr ⟨by rfl, rfl⟩) hHeld ?_
      simp only [Act.put, List.getElem_toArray, List.getElem_cons_zero, List.getElem_cons_succ, List.setIfInBounds_toArray, List.set_cons_zero, List.set_cons_succ]
      refine wpAnyH_take (i := 18) (v := undef) rfl (by kernel_rfl) (by kernel_rfl) (by kernel_rfl) (fun _ _ _ h => (h : False).elim) (Or.inr ⟨by rfl, rfl⟩) hHeld ?_
      simp only [Act.put, List.getElem_toArray, List.getElem_cons_zero, List.getElem_cons_succ, List.setIfInBounds_toArray, List.set_cons_zero, List.set_cons_succ]
      refine wpAnyH_take (i := 19) (v := undef) rfl (by kernel_rfl) (by kernel_rfl) (by kernel_rfl) (fun _ _ _ h => (h : False).elim) (Or.inr ⟨by rfl, rfl⟩) hHeld ?_
      simp only [Act.put, List.getElem_toArray, List.getElem_cons_zero, List.getElem_cons_succ, List.setIfInBounds_toArray, List.set_cons_zero, List.set_cons_succ]
      refine wpAnyH_take (i := 20) (v := .bool false) rfl (by kernel_rfl) (by kernel_rfl) (by kernel_rfl) (fun _ _ _ h => (h : False).elim) (Or.inl ⟨by rfl, (by intro w' _; go_simp)⟩) hHeld ?_
      simp only [Act.put, List.getElem_toArray, List.getElem_cons_zero, List.getElem_cons_succ, List.setIfInBounds_toArray, List.set_cons_zero, List.set_cons_succ]
      refine wpAnyH_take (i := 21) (v := .bool true) rfl (by kernel_rfl) (by kernel_rfl) (by kernel_rfl) (fun _ _ _ h => (h : False).elim) (Or.inl ⟨by rfl, (by intro w' _; go_simp)⟩) hHeld ?_
      simp only [Act.put, List.getElem_toArray, List.getElem_cons_zero, List.getElem_cons_succ, List.setIfInBounds_toArray, List.set_cons_zero, List.set_cons_succ]
      refine wpAnyH_take (i := 22) (v := .bool true) rfl (by kernel_rfl) (by kernel_rfl) (by kernel_rfl) (fun _ _ _ h => (h : False).elim) (Or.inl ⟨by rfl, (by intro w' _; go_simp)⟩) hHeld ?_
      simp only [Act.put, List.getElem_toArray, List.getElem_cons_zero, List.getElem_cons_succ, List.setIfInBounds_toArray, List.set_cons_zero, List.set_cons_succ]
      refine wpAnyH_ready (rs := [23]) (by kernel_rfl) (by simp) ?_
      refine AllReadyH.cons rfl (fun K hK => ?_) AllReadyH.nil
      rw [if_pos (by rfl)]
      go_simp
      refine (hlv.out X4.drew).mono ?_
      rintro e Z ⟨rfl, hz⟩
      replace hz := hid_of hz
      refine hK.out _ _ trivial (fun hHeld => ?_)
      clear hK K
      refine wpAnyH_take (i := 24) (v := .bool true) rfl (by kernel_rfl) (by kernel_rfl) (by kernel_rfl) (fun _ _ _ h => (h : False).elim) (Or.inl ⟨by rfl, (by intro w' _; go_simp)⟩) hHeld ?_
      simp only [Act.put, List.getElem_toArray, List.getElem_cons_zero, List.getElem_cons_succ, List.setIfInBounds_toArray, List.set_cons_zero, List.set_cons_succ]
      refine wpAnyH_take (i := 25) (v := .bool true) rfl (by kernel_rfl) (by kernel_rfl) (by kernel_rfl) (fun _ _ _ h => (h : False).elim) (Or.inl ⟨by rfl, (by intro w' _; go_simp)⟩) hHeld ?_
      simp only [Act.put, List.getElem_toArray, List.getElem_cons_zero, List.getElem_cons_succ, List.setIfInBounds_toArray, List.set_cons_zero, List.set_cons_succ]
      refine wpAnyH_done (by kernel_rfl) ?_ _
      refine NoPanic.normal ?_
      have hBz : Hid (Below w.heap.size w Z) := hfin.out Z ((below_drew l4.out).trans (hz.out.mono l4.out.size))
      go_wp2_with fail
      exact bodyPost_ret (v := .bool true) (by simp [results, Try.results5, go_sem]) rfl ⟨rfl, hBz.out⟩
    by_cases hle : ei ≤ ej
    · have ht1 : Hid (beforeB evs clients i j = true) := by
        unfold Hid
        rw [hread, decide_eq_true hle, decide_eq_false hij]
        rfl
      have hlt : i < j := before_lt ht1.out
      clear hread
      cases hb : beforeB evs clients j k with
      | true =>
        have ht2 := hid_of hb
        have ht3 : Hid (beforeB evs clients i k = true) := before_trans h0'.out hil.out.2.2 ht1.out hb
        clear hb
        replace hij := hid_of hij
        replace hle := hid_of hle
        have b1 := before_own a cap evs clients i j W2 (hfr.out W2 (Below.refl _ W2)) hsz'.out hwf.out _ ht1.out
        rw [hn.out] at b1
        replace b1 := hid_of b1
        go_upto_region 10 with fail
        refine b1.out.mono ?_
        clear b1
        rintro e Xo ⟨hBo, gg1, cc1, rfl, kk1⟩
        replace kk1 := hid_of kk1
        clear hBo
        go_upto_region 10 with fail
        refine kk1.out.mono ?_
        clear kk1
        rintro e X1 ⟨rfl, hBn1⟩
        have l1 : Hid (Below W2.heap.size W2 X1) := hBn1
        clear hBn1
        have b2 := before_own a cap evs clients j k X1 (hfr.out X1 l1.out) hsz'.out hwf.out _ ht2.out
        rw [hn.out] at b2
        replace b2 := hid_of b2
        go_upto_region 11 with fail
        refine b2.out.mono ?_
        clear b2
        rintro e Xo ⟨hBo, gg2, cc2, rfl, kk2⟩
        replace kk2 := hid_of kk2
        clear hBo
        go_upto_region 11 with fail
        refine kk2.out.mono ?_
        clear kk2
        rintro e X2 ⟨rfl, hBn2⟩
        have l2 : Hid (Below W2.heap.size W2 X2) := l1.out.trans (hBn2.mono l1.out.size)
        clear hBn2
        have b3 := before_own a cap evs clients i k X2 (hfr.out X2 l2.out) hsz'.out hwf.out _ ht3.out
        rw [hn.out] at b3
        replace b3 := hid_of b3
        go_upto_region 12 with fail
        refine b3.out.mono ?_
        clear b3
        rintro e Xo ⟨hBo, gg3, cc3, rfl, kk3⟩
        replace kk3 := hid_of kk3
        clear hBo
        go_upto_region 12 with fail
        refine kk3.out.mono ?_
        clear kk3
        rintro e X3 ⟨rfl, hBn3⟩
        have l3 : Hid (Below W2.heap.size W2 X3) := l2.out.trans (hBn3.mono l2.out.size)
        clear hBn3
        go_upto_region 12 with fail
        have b4 := before_own a cap evs clients i i X3 (hfr.out X3 l3.out) hsz'.out hwf.out _ hii.out
        rw [hn.out] at b4
        replace b4 := hid_of b4
        go_wp2_with fail
        refine b4.out.mono ?_
        clear b4
        rintro e Xo ⟨hBo, gg4, cc4, rfl, kk4⟩
        replace kk4 := hid_of kk4
        clear hBo
        go_wp2_with fail
        refine kk4.out.mono ?_
        clear kk4
        rintro e X4 ⟨rfl, hBn4⟩
        have l4 : Hid (Below W2.heap.size W2 X4) := l3.out.trans (hBn4.mono l3.out.size)
        clear hBn4
        obtain ⟨b, o, ha', hb', x0, x1, x2, x3⟩ := (hfr.out X4 l4.out) i _ he.out
        subst ha'
        rw [hat.out] at x0
        have y0 := stay l4.out s0.out
        have y1 := stay l4.out s1.out
        have y2 := stay l4.out s2.out
        have y3 := stay l4.out s3.out
        have hlv := hid_of (fun X => live_any X)
        clear x1 x2 x3 hb'
        go_upto_region 17 with fail
        have hne : (((i : Int)) != ((j : Int))) = true := by have := hij.out; simp; omega
        have hle' : ((ei : Int)) ≤ ((ej : Int)) := by have := hle.out; omega
        go_region_held3 (fun w' => w'.cell? ⟨g, i, none⟩ = some (.slice (some ⟨G i, 0, none⟩) nc nc) ∧ w'.cell? ⟨g, j, none⟩ = some (.slice (some ⟨G j, 0, none⟩) nc nc) ∧ w'.cell? ⟨G i, at', none⟩ = some (.int .i64 (ei : Nat)) ∧ w'.cell? ⟨G j, at', none⟩ = some (.int .i64 (ej : Nat))) (go_keep) (first
          | (go_at_call 10; refine (hlv.out X4.drew).mono ?_; rintro e Z ⟨rfl, hz⟩; have t0 : Z.cell? ⟨g, i, none⟩ = some (.slice (some ⟨G i, 0, none⟩) nc nc) := stay hz y0; have t1 : Z.cell? ⟨g, j, none⟩ = some (.slice (some ⟨G j, 0, none⟩) nc nc) := stay hz y1; have t2' : Z.cell? ⟨G i, at', none⟩ = some (.int .i64 (ei : Nat)) := stay hz y2; have t3' : Z.cell? ⟨G j, at', none⟩ = some (.int .i64 (ej : Nat)) := stay hz y3; replace hz := hid_of hz))
        have hBz : Hid (Below w.heap.size w Z) := hfin.out Z ((below_drew l4.out).trans (hz.out.mono l4.out.size))
        go_wp2_with fail
        exact bodyPost_ret (v := .bool true) (by simp [results, Try.results5, go_sem]) rfl ⟨rfl, hBz.out⟩
      | false =>
        have ht2 := hid_of hb
        obtain ⟨t3, ht3⟩ : ∃ t, Hid (beforeB evs clients i k = t) := ⟨_, rfl⟩
        clear hb
        replace hij := hid_of hij
        replace hle := hid_of hle
        have b1 := before_own a cap evs clients i j W2 (hfr.out W2 (Below.refl _ W2)) hsz'.out hwf.out _ ht1.out
        rw [hn.out] at b1
        replace b1 := hid_of b1
        go_upto_region 10 with fail
        refine b1.out.mono ?_
        clear b1
        rintro e Xo ⟨hBo, gg1, cc1, rfl, kk1⟩
        replace kk1 := hid_of kk1
        clear hBo
        go_upto_region 10 with fail
        refine kk1.out.mono ?_
        clear kk1
        rintro e X1 ⟨rfl, hBn1⟩
        have l1 : Hid (Below W2.heap.size W2 X1) := hBn1
        clear hBn1
        have b2 := before_own a cap evs clients j k X1 (hfr.out X1 l1.out) hsz'.out hwf.out _ ht2.out
        rw [hn.out] at b2
        replace b2 := hid_of b2
        go_upto_region 11 with fail
        refine b2.out.mono ?_
        clear b2
        rintro e Xo ⟨hBo, gg2, cc2, rfl, kk2⟩
        replace kk2 := hid_of kk2
        clear hBo
        go_upto_region 11 with fail
        refine kk2.out.mono ?_
        clear kk2
        rintro e X2 ⟨rfl, hBn2⟩
        have l2 : Hid (Below W2.heap.size W2 X2) := l1.out.trans (hBn2.mono l1.out.size)
        clear hBn2
        have b3 := before_own a cap evs clients i k X2 (hfr.out X2 l2.out) hsz'.out hwf.out _ ht3.out
        rw [hn.out] at b3
        replace b3 := hid_of b3
        go_upto_region 12 with fail
        refine b3.out.mono ?_
        clear b3
        rintro e Xo ⟨hBo, gg3, cc3, rfl, kk3⟩
        replace kk3 := hid_of kk3
        clear hBo
        go_upto_region 12 with fail
        refine kk3.out.mono ?_
        clear kk3
        rintro e X3 ⟨rfl, hBn3⟩
        have l3 : Hid (Below W2.heap.size W2 X3) := l2.out.trans (hBn3.mono l2.out.size)
        clear hBn3
        go_upto_region 12 with fail
        have b4 := before_own a cap evs clients i i X3 (hfr.out X3 l3.out) hsz'.out hwf.out _ hii.out
        rw [hn.out] at b4
        replace b4 := hid_of b4
        go_wp2_with fail
        refine b4.out.mono ?_
        clear b4
        rintro e Xo ⟨hBo, gg4, cc4, rfl, kk4⟩
        replace kk4 := hid_of kk4
        clear hBo
        go_wp2_with fail
        refine kk4.out.mono ?_
        clear kk4
        rintro e X4 ⟨rfl, hBn4⟩
        have l4 : Hid (Below W2.heap.size W2 X4) := l3.out.trans (hBn4.mono l3.out.size)
        clear hBn4
        obtain ⟨b, o, ha', hb', x0, x1, x2, x3⟩ := (hfr.out X4 l4.out) i _ he.out
        subst ha'
        rw [hat.out] at x0
        have y0 := stay l4.out s0.out
        have y1 := stay l4.out s1.out
        have y2 := stay l4.out s2.out
        have y3 := stay l4.out s3.out
        have hlv := hid_of (fun X => live_any X)
        clear x1 x2 x3 hb'
        go_upto_region 17 with fail
        have hne : (((i : Int)) != ((j : Int))) = true := by have := hij.out; simp; omega
        have hle' : ((ei : Int)) ≤ ((ej : Int)) := by have := hle.out; omega
        go_region_held3 (fun w' => w'.cell? ⟨g, i, none⟩ = some (.slice (some ⟨G i, 0, none⟩) nc nc) ∧ w'.cell? ⟨g, j, none⟩ = some (.slice (some ⟨G j, 0, none⟩) nc nc) ∧ w'.cell? ⟨G i, at', none⟩ = some (.int .i64 (ei : Nat)) ∧ w'.cell? ⟨G j, at', none⟩ = some (.int .i64 (ej : Nat))) (go_keep) (first
          | (go_at_call 10; refine (hlv.out X4.drew).mono ?_; rintro e Z ⟨rfl, hz⟩; have t0 : Z.cell? ⟨g, i, none⟩ = some (.slice (some ⟨G i, 0, none⟩) nc nc) := stay hz y0; have t1 : Z.cell? ⟨g, j, none⟩ = some (.slice (some ⟨G j, 0, none⟩) nc nc) := stay hz y1; have t2' : Z.cell? ⟨G i, at', none⟩ = some (.int .i64 (ei : Nat)) := stay hz y2; have t3' : Z.cell? ⟨G j, at', none⟩ = some (.int .i64 (ej : Nat)) := stay hz y3; replace hz := hid_of hz))
        have hBz : Hid (Below w.heap.size w Z) := hfin.out Z ((below_drew l4.out).trans (hz.out.mono l4.out.size))
        go_wp2_with fail
        exact bodyPost_ret (v := .bool true) (by simp [results, Try.results5, go_sem]) rfl ⟨rfl, hBz.out⟩
    · have ht1 : Hid (beforeB evs clients i j = false) := by
        unfold Hid
        rw [hread, decide_eq_false hle, decide_eq_false hij]
        rfl
      obtain ⟨t2, ht2⟩ : ∃ t, Hid (beforeB evs clients j k = t) := ⟨_, rfl⟩
      obtain ⟨t3, ht3⟩ : ∃ t, Hid (beforeB evs clients i k = t) := ⟨_, rfl⟩
      clear hread
      replace hij := hid_of hij
      replace hle := hid_of hle
      have b1 := before_own a cap evs clients i j W2 (hfr.out W2 (Below.refl _ W2)) hsz'.out hwf.out _ ht1.out
      rw [hn.out] at b1
      replace b1 := hid_of b1
      go_upto_region 10 with fail
      refine b1.out.mono ?_
      clear b1
      rintro e Xo ⟨hBo, gg1, cc1, rfl, kk1⟩
      replace kk1 := hid_of kk1
      clear hBo
      go_upto_region 10 with fail
      refine kk1.out.mono ?_
      clear kk1
      rintro e X1 ⟨rfl, hBn1⟩
      have l1 : Hid (Below W2.heap.size W2 X1) := hBn1
      clear hBn1
      have b2 := before_own a cap evs clients j k X1 (hfr.out X1 l1.out) hsz'.out hwf.out _ ht2.out
      rw [hn.out] at b2
      replace b2 := hid_of b2
      go_upto_region 11 with fail
      refine b2.out.mono ?_
      clear b2
      rintro e Xo ⟨hBo, gg2, cc2, rfl, kk2⟩
      replace kk2 := hid_of kk2
      clear hBo
      go_upto_region 11 with fail
      refine kk2.out.mono ?_
      clear kk2
      rintro e X2 ⟨rfl, hBn2⟩
      have l2 : Hid (Below W2.heap.size W2 X2) := l1.out.trans (hBn2.mono l1.out.size)
      clear hBn2
      have b3 := before_own a cap evs clients i k X2 (hfr.out X2 l2.out) hsz'.out hwf.out _ ht3.out
      rw [hn.out] at b3
      replace b3 := hid_of b3
      go_upto_region 12 with fail
      refine b3.out.mono ?_
      clear b3
      rintro e Xo ⟨hBo, gg3, cc3, rfl, kk3⟩
      replace kk3 := hid_of kk3
      clear hBo
      go_upto_region 12 with fail
      refine kk3.out.mono ?_
      clear kk3
      rintro e X3 ⟨rfl, hBn3⟩
      have l3 : Hid (Below W2.heap.size W2 X3) := l2.out.trans (hBn3.mono l2.out.size)
      clear hBn3
      go_upto_region 12 with fail
      have b4 := before_own a cap evs clients i i X3 (hfr.out X3 l3.out) hsz'.out hwf.out _ hii.out
      rw [hn.out] at b4
      replace b4 := hid_of b4
      go_wp2_with fail
      refine b4.out.mono ?_
      clear b4
      rintro e Xo ⟨hBo, gg4, cc4, rfl, kk4⟩
      replace kk4 := hid_of kk4
      clear hBo
      go_wp2_with fail
      refine kk4.out.mono ?_
      clear kk4
      rintro e X4 ⟨rfl, hBn4⟩
      have l4 : Hid (Below W2.heap.size W2 X4) := l3.out.trans (hBn4.mono l3.out.size)
      clear hBn4
      obtain ⟨b, o, ha', hb', x0, x1, x2, x3⟩ := (hfr.out X4 l4.out) i _ he.out
      subst ha'
      rw [hat.out] at x0
      have y0 := stay l4.out s0.out
      have y1 := stay l4.out s1.out
      have y2 := stay l4.out s2.out
      have y3 := stay l4.out s3.out
      have hlv := hid_of (fun X => live_any X)
      clear x1 x2 x3 hb'
      go_upto_region 17 with fail
      have hne : (((i : Int)) != ((j : Int))) = true := by have := hij.out; simp; omega
      have hle' : ((ej : Int)) < ((ei : Int)) := by have := hle.out; omega
      go_region_held3 (fun w' => w'.cell? ⟨g, i, none⟩ = some (.slice (some ⟨G i, 0, none⟩) nc nc) ∧ w'.cell? ⟨g, j, none⟩ = some (.slice (some ⟨G j, 0, none⟩) nc nc) ∧ w'.cell? ⟨G i, at', none⟩ = some (.int .i64 (ei : Nat)) ∧ w'.cell? ⟨G j, at', none⟩ = some (.int .i64 (ej : Nat))) (go_keep) (first
        | (go_at_call 10; refine (hlv.out X4.drew).mono ?_; rintro e Z ⟨rfl, hz⟩; have t0 : Z.cell? ⟨g, i, none⟩ = some (.slice (some ⟨G i, 0, none⟩) nc nc) := stay hz y0; have t1 : Z.cell? ⟨g, j, none⟩ = some (.slice (some ⟨G j, 0, none⟩) nc nc) := stay hz y1; have t2' : Z.cell? ⟨G i, at', none⟩ = some (.int .i64 (ei : Nat)) := stay hz y2; have t3' : Z.cell? ⟨G j, at', none⟩ = some (.int .i64 (ej : Nat)) := stay hz y3; replace hz := hid_of hz))
      have hBz : Hid (Below w.heap.size w Z) := hfin.out Z ((below_drew l4.out).trans (hz.out.mono l4.out.size))
      go_wp2_with fail
      exact bodyPost_ret (v := .bool true) (by have hq := hle.out; simp [results, Try.results5, go_sem] <;> omega) rfl ⟨rfl, hBz.out⟩
end Go.Proofs.Ytdgdfpgekccibaa
