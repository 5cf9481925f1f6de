import Derived.Test.YtdgdfpgekccibabKA
import Derived.Test.YtdgdfpgekccibabSR
/-! The document's linked. -/
namespace Go.Proofs.Ytdgdfpgekccibab
open Go Go.RowKit
set_option maxHeartbeats 4000000 in
set_option maxRecDepth 100000 in
theorem linked_any (a : Option Addr) (cap : Nat) (evs : List Ev) (i j : Nat) (w : World) (hE : EvsAt w a evs) (hcap : evs.length ≤ cap) (hcm : cap ≤ 9223372036854775807) (hij : i < j) (hj : j < evs.length) :
    Calls Try.prog 23 #[.slice a evs.length cap, .int .i64 (i : Nat), .int .i64 (j : Nat)] w fun e w' => e = .returned (.bool (linkB evs i j)) ∧ Below w.heap.size w w' := by
  obtain ⟨ei, hei⟩ : ∃ ei, Hid (evs[i]? = some ei) := ⟨evs[i]'(by omega), List.getElem?_eq_getElem (by omega)⟩
  obtain ⟨ej, hej⟩ : ∃ ej, Hid (evs[j]? = some ej) := ⟨evs[j]'(by omega), List.getElem?_eq_getElem (by omega)⟩
  rw [linkB_eq hei.out hej.out]
  obtain ⟨v, hv⟩ : ∃ v, Hid (linkE evs i j ei ej = v) := ⟨_, rfl⟩
  rw [hv.out]
  obtain ⟨b, o, rfl, hb, x0, x1, x2, x3⟩ := hE i _ hei.out
  obtain ⟨b', o', hbo, hb', z0, z1, z2, z3⟩ := hE j _ hej.out
  cases hbo
  obtain ⟨ci, ki, oi, ni⟩ := ei
  obtain ⟨cj, kj, oj, nj⟩ := ej
  simp only at x0 x1 x2 x3 z0 z1 z2 z3
  obtain ⟨n, hn⟩ : ∃ n, Hid (evs.length = n) := ⟨_, rfl⟩
  rw [hn.out] at hcap hj ⊢
  have hi : i < n := by omega
  replace hE := hid_of hE
  have hof := hid_of (fun k1 o1 n1 k2 o2 n2 w => refone_any k1 o1 n1 k2 o2 n2 w)
  go_enter Try.func23, Try.ntmps23
  go_upto_region 1 with fail
  go_quiet (fail)
  obtain ⟨W1, hW1⟩ : ∃ W1, Hid (w.drewN nq = W1) := ⟨_, rfl⟩
  rw [hW1.out]
  have hB1 : Hid (Below w.heap.size w W1) := by unfold Hid; rw [← hW1.out]; exact below_drewN (Below.refl _ w) nq
  clear hW1
  by_cases hc : ci = cj
  · have hcd : decide (ci = cj) = true := decide_eq_true hc
    obtain rfl : true = v := by rw [← hv.out]; unfold linkE oneT; simp [hc]
    go_wp2_with fail
    exact bodyPost_ret (v := .bool true) (by simp [results, Try.results23, go_sem]) rfl ⟨rfl, hB1.out⟩
  have hcd : decide (ci = cj) = false := decide_eq_false hc
  replace x1 := stay hB1.out x1
  replace x2 := stay hB1.out x2
  replace x3 := stay hB1.out x3
  replace z1 := stay hB1.out z1
  replace z2 := stay hB1.out z2
  replace z3 := stay hB1.out z3
  obtain ⟨t, ht⟩ : ∃ t, Hid ((decide (oi = oj) && decide (ni = nj)) = t) := ⟨_, rfl⟩
  have hon := hid_of (fun w => hof.out ki oi ni kj oj nj w)
  rw [ht.out] at hon
  clear x0 z0
  go_upto_region 3 with fail
  go_region_held3 (fun w' => w'.cell? ⟨b, o + i * 4 + 1, none⟩ = some (.int .i64 ki) ∧ w'.cell? ⟨b, o + i * 4 + 2, none⟩ = some (.int .i64 oi) ∧ w'.cell? ⟨b, o + i * 4 + 3, none⟩ = some (.int .i64 ni) ∧ w'.cell? ⟨b, o + j * 4 + 1, none⟩ = some (.int .i64 kj) ∧ w'.cell? ⟨b, o + j * 4 + 2, none⟩ = some (.int .i64 oj) ∧ w'.cell? ⟨b, o + j * 4 + 3, none⟩ = some (.int .i64 nj)) (go_keep) (first
    | (refine (hon.out W1.drew).mono ?_; rintro e Z1 ⟨rfl, hz1⟩; have t0 : Z1.cell? ⟨b, o + i * 4 + 1, none⟩ = some (.int .i64 ki) := stay hz1 x1; have t1 : Z1.cell? ⟨b, o + i * 4 + 2, none⟩ = some (.int .i64 oi) := stay hz1 x2; have t2 : Z1.cell? ⟨b, o + i * 4 + 3, none⟩ = some (.int .i64 ni) := stay hz1 x3; have t3 : Z1.cell? ⟨b, o + j * 4 + 1, none⟩ = some (.int .i64 kj) := stay hz1 z1; have t4 : Z1.cell? ⟨b, o + j * 4 + 2, none⟩ = some (.int .i64 oj) := stay hz1 z2; have t5 : Z1.cell? ⟨b, o + j * 4 + 3, none⟩ = some (.int .i64 nj) := stay hz1 z3; replace hz1 := hid_of hz1))
  have hBZ : Hid (Below w.heap.size w Z1) := (below_drew hB1.out).trans (hz1.out.mono hB1.out.size)
  clear hz1 hB1 hon x1 x2 x3 z1 z2 z3
  cases t with
  | false =>
    obtain rfl : false = v := by rw [← hv.out]; unfold linkE oneT; simp only [hcd, ht.out]; simp
    go_wp2_with fail
    exact bodyPost_ret (v := .bool false) (by simp [results, Try.results23, go_sem]) rfl ⟨rfl, hBZ.out⟩
  | true =>
    obtain ⟨hoo, hnn⟩ : Hid (oi = oj) ∧ Hid (ni = nj) := by have := ht.out; simp at this; exact this
    clear ht
    rw [Bool.not_true]
    by_cases h2 : ki = 2
    · have h2d : decide (ki = 2) = true := decide_eq_true h2
      by_cases b1 : kj = 1
      · have b1d : decide (kj = 1) = true := decide_eq_true b1
        obtain rfl : true = v := by rw [← hv.out]; unfold linkE oneT; simp [h2, b1, hoo.out, hnn.out]
        go_wp2_with fail
        exact bodyPost_ret (v := .bool true) (by simp [results, Try.results23, go_sem]) rfl ⟨rfl, hBZ.out⟩
      have b1d : decide (kj = 1) = false := decide_eq_false b1
      by_cases b3 : kj = 3
      · have b3d : decide (kj = 3) = true := decide_eq_true b3
        obtain rfl : true = v := by rw [← hv.out]; unfold linkE oneT; simp [h2, b3, hoo.out, hnn.out]
        go_wp2_with fail
        exact bodyPost_ret (v := .bool true) (by simp [results, Try.results23, go_sem]) rfl ⟨rfl, hBZ.out⟩
      · have b3d : decide (kj = 3) = false := decide_eq_false b3
        obtain rfl : false = v := by rw [← hv.out]; unfold linkE oneT; simp [hc, h2, b1, b3]
        go_wp2_with fail
        exact bodyPost_ret (v := .bool false) (by simp [results, Try.results23, go_sem, b1, b3]) rfl ⟨rfl, hBZ.out⟩
    have h2d : decide (ki = 2) = false := decide_eq_false h2
    by_cases h4 : ki = 4
    · have h4d : decide (ki = 4) = true := decide_eq_true h4
      by_cases b1 : kj = 1
      · have b1d : decide (kj = 1) = true := decide_eq_true b1
        obtain rfl : true = v := by rw [← hv.out]; unfold linkE oneT; simp [h4, b1, hoo.out, hnn.out]
        go_wp2_with fail
        exact bodyPost_ret (v := .bool true) (by simp [results, Try.results23, go_sem]) rfl ⟨rfl, hBZ.out⟩
      · have b1d : decide (kj = 1) = false := decide_eq_false b1
        obtain rfl : false = v := by rw [← hv.out]; unfold linkE oneT; simp [hc, h4, b1]
        go_wp2_with fail
        exact bodyPost_ret (v := .bool false) (by simp [results, Try.results23, go_sem, b1]) rfl ⟨rfl, hBZ.out⟩
    have h4d : decide (ki = 4) = false := decide_eq_false h4
    by_cases hm : (ki = 6 ∨ ki = 7) ∧ (kj = 5 ∨ kj = 7)
    · obtain ⟨hma, hmb⟩ := hm
      have hv2 : Hid (noStore evs ⟨cj, kj, oj, nj⟩ (i + 1) (j - (i + 1)) = v) := by
        rw [← hv.out]
        unfold Hid linkE oneT
        simp only [hcd, hoo.out, hnn.out]
        rcases hma with rfl | rfl <;> rcases hmb with rfl | rfl <;> simp
      have hgo : (ki = 6 ∧ kj = 5) ∨ (ki = 6 ∧ kj = 7) ∨ (ki = 7 ∧ kj = 5) ∨ (ki = 7 ∧ kj = 7) := by rcases hma with h | h <;> rcases hmb with h' | h' <;> simp [h, h']
      clear hv hma hmb h2 h4 h2d h4d
      rcases hgo with ⟨rfl, rfl⟩ | ⟨rfl, rfl⟩ | ⟨rfl, rfl⟩ | ⟨rfl, rfl⟩
      · go_wp2_with fail
        go_loopw [9] (fun kv wr => ∃ k : Nat, kv = .int .i64 (k : Nat) ∧ i + 1 ≤ k ∧ k ≤ j ∧ Hid (noStore evs ⟨cj, 5, oj, nj⟩ (i + 1) (k - (i + 1)) = true) ∧ Below w.heap.size w wr) (fun kv _ => j - (intOf kv).toNat)
        case atStart => exact ⟨i + 1, by go_num, Nat.le_refl _, by omega, by unfold Hid; rw [Nat.sub_self]; rfl, hBZ.out⟩
        case round =>
          obtain ⟨k, rfl, hk1, hk2, hm, hBr⟩ := hrel
          clear t0 t1 t2 t3 t4 t5
          by_cases hkj : k < j
          · obtain ⟨ek, hek⟩ : ∃ ek, Hid (evs[k]? = some ek) := ⟨evs[k]'(by have := hn.out; omega), List.getElem?_eq_getElem (by have := hn.out; omega)⟩
            obtain ⟨bk, ok', hbo, hb1, y0, y1, y2, y3⟩ := (hE.out.keep hBr) k _ hek.out
            cases hbo
            obtain ⟨bj, oj', hbo, hb2, z0, z1, z2, z3⟩ := (hE.out.keep hBr) j _ hej.out
            cases hbo
            obtain ⟨ck, kk, ok, nk⟩ := ek
            simp only at y0 y1 y2 y3 z0 z1 z2 z3
            have hkn : k < n := by omega
            obtain ⟨t, ht⟩ : ∃ t, Hid ((decide (ok = oj) && decide (nk = nj)) = t) := ⟨_, rfl⟩
            have hon := hid_of (fun w => hof.out kk ok nk 5 oj nj w)
            rw [ht.out] at hon
            replace hBr := hid_of hBr
            clear y0 z0
            cases t with
            | false =>
              have hso : Hid (storeOf evs k ⟨cj, 5, oj, nj⟩ = false) := by unfold Hid storeOf; rw [hek.out]; simp only; rw [Bool.and_assoc, ht.out]; simp
              go_upto_region 15 with fail
              refine wp_region_noPanic ?_
              refine wp_region_held_drew (S := (fun w' => w'.cell? ⟨b, o + k * 4 + 1, none⟩ = some (.int .i64 kk) ∧ w'.cell? ⟨b, o + k * 4 + 2, none⟩ = some (.int .i64 ok) ∧ w'.cell? ⟨b, o + k * 4 + 3, none⟩ = some (.int .i64 nk) ∧ w'.cell? ⟨b, o + j * 4 + 1, none⟩ = some (.int .i64 5) ∧ w'.cell? ⟨b, o + j * 4 + 2, none⟩ = some (.int .i64 oj) ∧ w'.cell? ⟨b, o + j * 4 + 3, none⟩ = some (.int .i64 nj))) (by kernel_rfl) ⟨y1, y2, y3, z1, z2, z3⟩ (fun hHeld => ?_)
              refine wpAnyH_take (i := 0) (v := .slice (some ⟨b, o, none⟩) n cap) rfl (by kernel_rfl) (by kernel_rfl) (by kernel_rfl) (fun _ _ _ h => (h : False).elim) (Or.inl ⟨by rfl, (by intro w' hS; go_simp)⟩) hHeld ?_
              simp only [Act.put, List.getElem_toArray, List.getElem_cons_zero, List.setIfInBounds_toArray, List.set_cons_zero, List.set_cons_succ]
              refine wpAnyH_take (i := 1) (v := .int .i64 (k : Nat)) rfl (by kernel_rfl) (by kernel_rfl) (by kernel_rfl) (fun _ _ _ h => (h : False).elim) (Or.inl ⟨by rfl, (by intro w' hS; go_simp)⟩) hHeld ?_
              simp only [Act.put, List.getElem_toArray, List.getElem_cons_zero, List.getElem_cons_succ, List.setIfInBounds_toArray, List.set_cons_zero, List.set_cons_succ]
              refine wpAnyH_take (i := 2) (v := .pointer (some ⟨b, o + k * 4, none⟩)) rfl (by kernel_rfl) (by kernel_rfl) (by kernel_rfl) (fun _ _ _ h => (h : False).elim) (Or.inl ⟨by rfl, (by intro w' hS; go_simp)⟩) hHeld ?_
              simp only [Act.put, List.getElem_toArray, List.getElem_cons_zero, List.getElem_cons_succ, List.setIfInBounds_toArray, List.set_cons_zero, List.set_cons_succ]
              refine wpAnyH_take (i := 3) (v := .pointer (some ⟨b, o + k * 4 + 1, none⟩)) rfl (by kernel_rfl) (by kernel_rfl) (by kernel_rfl) (fun _ _ _ h => (h : False).elim) (Or.inl ⟨by rfl, (by intro w' hS; go_simp)⟩) hHeld ?_
              simp only [Act.put, List.getElem_toArray, List.getElem_cons_zero, List.getElem_cons_succ, List.setIfInBounds_toArray, List.set_cons_zero, List.set_cons_succ]
              refine wpAnyH_take (i := 4) (v := .agg #[.int .i64 kk, .int .i64 ok, .int .i64 nk]) rfl (by kernel_rfl) (by kernel_rfl) (by kernel_rfl) (fun _ _ _ h => (h : False).elim) (Or.inl ⟨by rfl, (by intro w' hS; obtain ⟨g1, g2, g3, g4, g5, g6⟩ := hS; go_simp)⟩) hHeld ?_
              simp only [Act.put, List.getElem_toArray, List.getElem_cons_zero, List.getElem_cons_succ, List.setIfInBounds_toArray, List.set_cons_zero, List.set_cons_succ]
              refine wpAnyH_take (i := 5) (v := .slice (some ⟨b, o, none⟩) n cap) rfl (by kernel_rfl) (by kernel_rfl) (by kernel_rfl) (fun _ _ _ h => (h : False).elim) (Or.inl ⟨by rfl, (by intro w' hS; go_simp)⟩) hHeld ?_
              simp only [Act.put, List.getElem_toArray, List.getElem_cons_zero, List.getElem_cons_succ, List.setIfInBounds_toArray, List.set_cons_zero, List.set_cons_succ]
              refine wpAnyH_take (i := 6) (v := .int .i64 (j : Nat)) rfl (by kernel_rfl) (by kernel_rfl) (by kernel_rfl) (fun _ _ _ h => (h : False).elim) (Or.inl ⟨by rfl, (by intro w' hS; go_simp)⟩) hHeld ?_
              simp only [Act.put, List.getElem_toArray, List.getElem_cons_zero, List.getElem_cons_succ, List.setIfInBounds_toArray, List.set_cons_zero, List.set_cons_succ]
              refine wpAnyH_take (i := 7) (v := .pointer (some ⟨b, o + j * 4, none⟩)) rfl (by kernel_rfl) (by kernel_rfl) (by kernel_rfl) (fun _ _ _ h => (h : False).elim) (Or.inl ⟨by rfl, (by intro w' hS; go_simp)⟩) hHeld ?_
              simp only [Act.put, List.getElem_toArray, List.getElem_cons_zero, List.getElem_cons_succ, List.setIfInBounds_toArray, List.set_cons_zero, List.set_cons_succ]
              refine wpAnyH_take (i := 8) (v := .pointer (some ⟨b, o + j * 4 + 1, none⟩)) rfl (by kernel_rfl) (by kernel_rfl) (by kernel_rfl) (fun _ _ _ h => (h : False).elim) (Or.inl ⟨by rfl, (by intro w' hS; go_simp)⟩) hHeld ?_
              simp only [Act.put, List.getElem_toArray, List.getElem_cons_zero, List.getElem_cons_succ, List.setIfInBounds_toArray, List.set_cons_zero, List.set_cons_succ]
              refine wpAnyH_take (i := 9) (v := .agg #[.int .i64 5, .int .i64 oj, .int .i64 nj]) rfl (by kernel_rfl) (by kernel_rfl) (by kernel_rfl) (fun _ _ _ h => (h : False).elim) (Or.inl ⟨by rfl, (by intro w' hS; obtain ⟨g1, g2, g3, g4, g5, g6⟩ := hS; go_simp)⟩) hHeld ?_
              simp only [Act.put, List.getElem_toArray, List.getElem_cons_zero, List.getElem_cons_succ, List.setIfInBounds_toArray, List.set_cons_zero, List.set_cons_succ]
              refine wpAnyH_ready (rs := [10]) (by kernel_rfl) (by simp) ?_
              refine AllReadyH.cons rfl (fun K hK => ?_) AllReadyH.nil
              rw [if_pos (by rfl)]
              go_simp
              refine (hon.out wr.drew).mono ?_
              rintro e Z2 ⟨rfl, hz2⟩
              have hS2 : (fun w' => w'.cell? ⟨b, o + k * 4 + 1, none⟩ = some (.int .i64 kk) ∧ w'.cell? ⟨b, o + k * 4 + 2, none⟩ = some (.int .i64 ok) ∧ w'.cell? ⟨b, o + k * 4 + 3, none⟩ = some (.int .i64 nk) ∧ w'.cell? ⟨b, o + j * 4 + 1, none⟩ = some (.int .i64 5) ∧ w'.cell? ⟨b, o + j * 4 + 2, none⟩ = some (.int .i64 oj) ∧ w'.cell? ⟨b, o + j * 4 + 3, none⟩ = some (.int .i64 nj)) Z2 := ⟨stay hz2 y1, stay hz2 y2, stay hz2 y3, stay hz2 z1, stay hz2 z2, stay hz2 z3⟩
              replace hz2 := hid_of hz2
              refine hK.out _ _ hS2 (fun hHeld => ?_)
              clear hK K
              refine wpAnyH_take (i := 11) (v := .bool false) rfl (by kernel_rfl) (by kernel_rfl) (by kernel_rfl) (fun _ _ _ h => (h : False).elim) (Or.inl ⟨by rfl, (by intro w' hS; go_simp)⟩) hHeld ?_
              simp only [Act.put, List.getElem_toArray, List.getElem_cons_zero, List.getElem_cons_succ, List.setIfInBounds_toArray, List.set_cons_zero, List.set_cons_succ]
              refine wpAnyH_take (i := 12) (v := undef) rfl (by kernel_rfl) (by kernel_rfl) (by kernel_rfl) (fun _ _ _ h => (h : False).elim) (Or.inr ⟨by rfl, rfl⟩) hHeld ?_
              simp only [Act.put, List.getElem_toArray, List.getElem_cons_zero, List.getElem_cons_succ, List.setIfInBounds_toArray, List.set_cons_zero, List.set_cons_succ]
              refine wpAnyH_take (i := 13) (v := undef) rfl (by kernel_rfl) (by kernel_rfl) (by kernel_rfl) (fun _ _ _ h => (h : False).elim) (Or.inr ⟨by rfl, rfl⟩) hHeld ?_
              simp only [Act.put, List.getElem_toArray, List.getElem_cons_zero, List.getElem_cons_succ, List.setIfInBounds_toArray, List.set_cons_zero, List.set_cons_succ]
              refine wpAnyH_take (i := 14) (v := undef) rfl (by kernel_rfl) (by kernel_rfl) (by kernel_rfl) (fun _ _ _ h => (h : False).elim) (Or.inr ⟨by rfl, rfl⟩) hHeld ?_
              simp only [Act.put, List.getElem_toArray, List.getElem_cons_zero, List.getElem_cons_succ, List.setIfInBounds_toArray, List.set_cons_zero, List.set_cons_succ]
              refine wpAnyH_take (i := 15) (v := undef) rfl (by kernel_rfl) (by kernel_rfl) (by kernel_rfl) (fun _ _ _ h => (h : False).elim) (Or.inr ⟨by rfl, rfl⟩) hHeld ?_
              simp only [Act.put, List.getElem_toArray, List.getElem_cons_zero, List.getElem_cons_succ, List.setIfInBounds_toArray, List.set_cons_zero, List.set_cons_succ]
              refine wpAnyH_take (i := 16) (v := undef) rfl (by kernel_rfl) (by kernel_rfl) (by kernel_rfl) (fun _ _ _ h => (h : False).elim) (Or.inr ⟨by rfl, rfl⟩) hHeld ?_
              simp only [Act.put, List.getElem_toArray, List.getElem_cons_zero, List.getElem_cons_succ, List.setIfInBounds_toArray, List.set_cons_zero, List.set_cons_succ]
              refine wpAnyH_take (i := 17) (v := undef) rfl (by kernel_rfl) (by kernel_rfl) (by kernel_rfl) (fun _ _ _ h => (h : False).elim) (Or.inr ⟨by rfl, rfl⟩) hHeld ?_
              simp only [Act.put, List.getElem_toArray, List.getElem_cons_zero, List.getElem_cons_succ, List.setIfInBounds_toArray, List.set_cons_zero, List.set_cons_succ]
              refine wpAnyH_take (i := 18) (v := undef) rfl (by kernel_rfl) (by kernel_rfl) (by kernel_rfl) (fun _ _ _ h => (h : False).elim) (Or.inr ⟨by rfl, rfl⟩) hHeld ?_
              simp only [Act.put, List.getElem_toArray, List.getElem_cons_zero, List.getElem_cons_succ, List.setIfInBounds_toArray, List.set_cons_zero, List.set_cons_succ]
              refine wpAnyH_take (i := 19) (v := .bool false) rfl (by kernel_rfl) (by kernel_rfl) (by kernel_rfl) (fun _ _ _ h => (h : False).elim) (Or.inl ⟨by rfl, (by intro w' hS; go_simp)⟩) hHeld ?_
              simp only [Act.put, List.getElem_toArray, List.getElem_cons_zero, List.getElem_cons_succ, List.setIfInBounds_toArray, List.set_cons_zero, List.set_cons_succ]
              refine wpAnyH_done (by kernel_rfl) ?_ _
              refine NoPanic.normal ?_
              have hBz : Hid (Below w.heap.size w Z2) := (below_drew hBr.out).trans (hz2.out.mono hBr.out.size)
              go_wp2_with fail
              go_roundw
              case rel => exact ⟨k + 1, by go_num, by omega, by omega, by unfold Hid; rw [show k + 1 - (i + 1) = (k - (i + 1)) + 1 by omega]; simp only [noStore]; rw [hm.out, show i + 1 + (k - (i + 1)) = k by omega, hso.out]; rfl, hBz.out⟩
              case measure =>
                simp only [intOf]
                omega
            | true =>
              by_cases h6 : kk = 6
              · subst h6
                have hso : Hid (storeOf evs k ⟨cj, 5, oj, nj⟩ = true) := by unfold Hid storeOf; rw [hek.out]; simp only; rw [Bool.and_assoc, ht.out]; simp
                obtain rfl : false = v := by
                  rw [← hv2.out]
                  cases hq : noStore evs ⟨cj, 5, oj, nj⟩ (i + 1) (j - (i + 1)) with
                  | false => rfl
                  | true => have := noStore_at hq k hk1 (by omega); rw [hso.out] at this; cases this
                go_upto_region 15 with fail
                go_region_held3 (fun w' => w'.cell? ⟨b, o + k * 4 + 1, none⟩ = some (.int .i64 6) ∧ w'.cell? ⟨b, o + k * 4 + 2, none⟩ = some (.int .i64 ok) ∧ w'.cell? ⟨b, o + k * 4 + 3, none⟩ = some (.int .i64 nk) ∧ w'.cell? ⟨b, o + j * 4 + 1, none⟩ = some (.int .i64 5) ∧ w'.cell? ⟨b, o + j * 4 + 2, none⟩ = some (.int .i64 oj) ∧ w'.cell? ⟨b, o + j * 4 + 3, none⟩ = some (.int .i64 nj)) (go_keep) (first
                  | (refine (hon.out wr.drew).mono ?_; rintro e Z2 ⟨rfl, hz2⟩; have s0 : Z2.cell? ⟨b, o + k * 4 + 1, none⟩ = some (.int .i64 6) := stay hz2 y1; have s1 : Z2.cell? ⟨b, o + k * 4 + 2, none⟩ = some (.int .i64 ok) := stay hz2 y2; have s2 : Z2.cell? ⟨b, o + k * 4 + 3, none⟩ = some (.int .i64 nk) := stay hz2 y3; have s3 : Z2.cell? ⟨b, o + j * 4 + 1, none⟩ = some (.int .i64 5) := stay hz2 z1; have s4 : Z2.cell? ⟨b, o + j * 4 + 2, none⟩ = some (.int .i64 oj) := stay hz2 z2; have s5 : Z2.cell? ⟨b, o + j * 4 + 3, none⟩ = some (.int .i64 nj) := stay hz2 z3; replace hz2 := hid_of hz2))
                clear s0 s1 s2 s3 s4 s5
                have hBz : Hid (Below w.heap.size w Z2) := (below_drew hBr.out).trans (hz2.out.mono hBr.out.size)
                go_wp2_with fail
                exact bodyPost_ret (v := .bool false) (by simp [results, Try.results23, go_sem]) rfl ⟨rfl, hBz.out⟩
              · have h6d : decide (kk = 6) = false := decide_eq_false h6
                have h6b : (kk == 6) = false := by simp [h6]
                have hso : Hid (storeOf evs k ⟨cj, 5, oj, nj⟩ = false) := by unfold Hid storeOf; rw [hek.out]; simp [h6]
                go_upto_region 15 with fail
                go_region_held3 (fun w' => w'.cell? ⟨b, o + k * 4 + 1, none⟩ = some (.int .i64 kk) ∧ w'.cell? ⟨b, o + k * 4 + 2, none⟩ = some (.int .i64 ok) ∧ w'.cell? ⟨b, o + k * 4 + 3, none⟩ = some (.int .i64 nk) ∧ w'.cell? ⟨b, o + j * 4 + 1, none⟩ = some (.int .i64 5) ∧ w'.cell? ⟨b, o + j * 4 + 2, none⟩ = some (.int .i64 oj) ∧ w'.cell? ⟨b, o + j * 4 + 3, none⟩ = some (.int .i64 nj)) (go_keep) (first
                  | (refine (hon.out wr.drew).mono ?_; rintro e Z2 ⟨rfl, hz2⟩; have s0 : Z2.cell? ⟨b, o + k * 4 + 1, none⟩ = some (.int .i64 kk) := stay hz2 y1; have s1 : Z2.cell? ⟨b, o + k * 4 + 2, none⟩ = some (.int .i64 ok) := stay hz2 y2; have s2 : Z2.cell? ⟨b, o + k * 4 + 3, none⟩ = some (.int .i64 nk) := stay hz2 y3; have s3 : Z2.cell? ⟨b, o + j * 4 + 1, none⟩ = some (.int .i64 5) := stay hz2 z1; have s4 : Z2.cell? ⟨b, o + j * 4 + 2, none⟩ = some (.int .i64 oj) := stay hz2 z2; have s5 : Z2.cell? ⟨b, o + j * 4 + 3, none⟩ = some (.int .i64 nj) := stay hz2 z3; replace hz2 := hid_of hz2))
                clear s0 s1 s2 s3 s4 s5
                have hBz : Hid (Below w.heap.size w Z2) := (below_drew hBr.out).trans (hz2.out.mono hBr.out.size)
                go_wp2_with fail
                go_roundw
                case rel => exact ⟨k + 1, by go_num, by omega, by omega, by unfold Hid; rw [show k + 1 - (i + 1) = (k - (i + 1)) + 1 by omega]; simp only [noStore]; rw [hm.out, show i + 1 + (k - (i + 1)) = k by omega, hso.out]; rfl, hBz.out⟩
                case measure =>
                  simp only [intOf]
                  omega
          · obtain rfl : k = j := by omega
            obtain rfl : true = v := by rw [← hv2.out, hm.out]
            go_wp2_with fail
            exact bodyPost_ret (v := .bool true) (by simp [results, Try.results23, go_sem]) rfl ⟨rfl, hBr⟩
      · go_wp2_with fail
        go_loopw [9] (fun kv wr => ∃ k : Nat, kv = .int .i64 (k : Nat) ∧ i + 1 ≤ k ∧ k ≤ j ∧ Hid (noStore evs ⟨cj, 7, oj, nj⟩ (i + 1) (k - (i + 1)) = true) ∧ Below w.heap.size w wr) (fun kv _ => j - (intOf kv).toNat)
        case atStart => exact ⟨i + 1, by go_num, Nat.le_refl _, by omega, by unfold Hid; rw [Nat.sub_self]; rfl, hBZ.out⟩
        case round =>
          obtain ⟨k, rfl, hk1, hk2, hm, hBr⟩ := hrel
          clear t0 t1 t2 t3 t4 t5
          by_cases hkj : k < j
          · obtain ⟨ek, hek⟩ : ∃ ek, Hid (evs[k]? = some ek) := ⟨evs[k]'(by have := hn.out; omega), List.getElem?_eq_getElem (by have := hn.out; omega)⟩
            obtain ⟨bk, ok', hbo, hb1, y0, y1, y2, y3⟩ := (hE.out.keep hBr) k _ hek.out
            cases hbo
            obtain ⟨bj, oj', hbo, hb2, z0, z1, z2, z3⟩ := (hE.out.keep hBr) j _ hej.out
            cases hbo
            obtain ⟨ck, kk, ok, nk⟩ := ek
            simp only at y0 y1 y2 y3 z0 z1 z2 z3
            have hkn : k < n := by omega
            obtain ⟨t, ht⟩ : ∃ t, Hid ((decide (ok = oj) && decide (nk = nj)) = t) := ⟨_, rfl⟩
            have hon := hid_of (fun w => hof.out kk ok nk 7 oj nj w)
            rw [ht.out] at hon
            replace hBr := hid_of hBr
            clear y0 z0
            cases t with
            | false =>
              have hso : Hid (storeOf evs k ⟨cj, 7, oj, nj⟩ = false) := by unfold Hid storeOf; rw [hek.out]; simp only; rw [Bool.and_assoc, ht.out]; simp
              go_upto_region 15 with fail
              refine wp_region_noPanic ?_
              refine wp_region_held_drew (S := (fun w' => w'.cell? ⟨b, o + k * 4 + 1, none⟩ = some (.int .i64 kk) ∧ w'.cell? ⟨b, o + k * 4 + 2, none⟩ = some (.int .i64 ok) ∧ w'.cell? ⟨b, o + k * 4 + 3, none⟩ = some (.int .i64 nk) ∧ w'.cell? ⟨b, o + j * 4 + 1, none⟩ = some (.int .i64 7) ∧ w'.cell? ⟨b, o + j * 4 + 2, none⟩ = some (.int .i64 oj) ∧ w'.cell? ⟨b, o + j * 4 + 3, none⟩ = some (.int .i64 nj))) (by kernel_rfl) ⟨y1, y2, y3, z1, z2, z3⟩ (fun hHeld => ?_)
              refine wpAnyH_take (i := 0) (v := .slice (some ⟨b, o, none⟩) n cap) rfl (by kernel_rfl) (by kernel_rfl) (by kernel_rfl) (fun _ _ _ h => (h : False).elim) (Or.inl ⟨by rfl, (by intro w' hS; go_simp)⟩) hHeld ?_
              simp only [Act.put, List.getElem_toArray, List.getElem_cons_zero, List.setIfInBounds_toArray, List.set_cons_zero, List.set_cons_succ]
              refine wpAnyH_take (i := 1) (v := .int .i64 (k : Nat)) rfl (by kernel_rfl) (by kernel_rfl) (by kernel_rfl) (fun _ _ _ h => (h : False).elim) (Or.inl ⟨by rfl, (by intro w' hS; go_simp)⟩) hHeld ?_
              simp only [Act.put, List.getElem_toArray, List.getElem_cons_zero, List.getElem_cons_succ, List.setIfInBounds_toArray, List.set_cons_zero, List.set_cons_succ]
              refine wpAnyH_take (i := 2) (v := .pointer (some ⟨b, o + k * 4, none⟩)) rfl (by kernel_rfl) (by kernel_rfl) (by kernel_rfl) (fun _ _ _ h => (h : False).elim) (Or.inl ⟨by rfl, (by intro w' hS; go_simp)⟩) hHeld ?_
              simp only [Act.put, List.getElem_toArray, List.getElem_cons_zero, List.getElem_cons_succ, List.setIfInBounds_toArray, List.set_cons_zero, List.set_cons_succ]
              refine wpAnyH_take (i := 3) (v := .pointer (some ⟨b, o + k * 4 + 1, none⟩)) rfl (by kernel_rfl) (by kernel_rfl) (by kernel_rfl) (fun _ _ _ h => (h : False).elim) (Or.inl ⟨by rfl, (by intro w' hS; go_simp)⟩) hHeld ?_
              simp only [Act.put, List.getElem_toArray, List.getElem_cons_zero, List.getElem_cons_succ, List.setIfInBounds_toArray, List.set_cons_zero, List.set_cons_succ]
              refine wpAnyH_take (i := 4) (v := .agg #[.int .i64 kk, .int .i64 ok, .int .i64 nk]) rfl (by kernel_rfl) (by kernel_rfl) (by kernel_rfl) (fun _ _ _ h => (h : False).elim) (Or.inl ⟨by rfl, (by intro w' hS; obtain ⟨g1, g2, g3, g4, g5, g6⟩ := hS; go_simp)⟩) hHeld ?_
              simp only [Act.put, List.getElem_toArray, List.getElem_cons_zero, List.getElem_cons_succ, List.setIfInBounds_toArray, List.set_cons_zero, List.set_cons_succ]
              refine wpAnyH_take (i := 5) (v := .slice (some ⟨b, o, none⟩) n cap) rfl (by kernel_rfl) (by kernel_rfl) (by kernel_rfl) (fun _ _ _ h => (h : False).elim) (Or.inl ⟨by rfl, (by intro w' hS; go_simp)⟩) hHeld ?_
              simp only [Act.put, List.getElem_toArray, List.getElem_cons_zero, List.getElem_cons_succ, List.setIfInBounds_toArray, List.set_cons_zero, List.set_cons_succ]
              refine wpAnyH_take (i := 6) (v := .int .i64 (j : Nat)) rfl (by kernel_rfl) (by kernel_rfl) (by kernel_rfl) (fun _ _ _ h => (h : False).elim) (Or.inl ⟨by rfl, (by intro w' hS; go_simp)⟩) hHeld ?_
              simp only [Act.put, List.getElem_toArray, List.getElem_cons_zero, List.getElem_cons_succ, List.setIfInBounds_toArray, List.set_cons_zero, List.set_cons_succ]
              refine wpAnyH_take (i := 7) (v := .pointer (some ⟨b, o + j * 4, none⟩)) rfl (by kernel_rfl) (by kernel_rfl) (by kernel_rfl) (fun _ _ _ h => (h : False).elim) (Or.inl ⟨by rfl, (by intro w' hS; go_simp)⟩) hHeld ?_
              simp only [Act.put, List.getElem_toArray, List.getElem_cons_zero, List.getElem_cons_succ, List.setIfInBounds_toArray, List.set_cons_zero, List.set_cons_succ]
              refine wpAnyH_take (i := 8) (v := .pointer (some ⟨b, o + j * 4 + 1, none⟩)) rfl (by kernel_rfl) (by kernel_rfl) (by kernel_rfl) (fun _ _ _ h => (h : False).elim) (Or.inl ⟨by rfl, (by intro w' hS; go_simp)⟩) hHeld ?_
              simp only [Act.put, List.getElem_toArray, List.getElem_cons_zero, List.getElem_cons_succ, List.setIfInBounds_toArray, List.set_cons_zero, List.set_cons_succ]
              refine wpAnyH_take (i := 9) (v := .agg #[.int .i64 7, .int .i64 oj, .int .i64 nj]) rfl (by kernel_rfl) (by kernel_rfl) (by kernel_rfl) (fun _ _ _ h => (h : False).elim) (Or.inl ⟨by rfl, (by intro w' hS; obtain ⟨g1, g2, g3, g4, g5, g6⟩ := hS; go_simp)⟩) hHeld ?_
              simp only [Act.put, List.getElem_toArray, List.getElem_cons_zero, List.getElem_cons_succ, List.setIfInBounds_toArray, List.set_cons_zero, List.set_cons_succ]
              refine wpAnyH_ready (rs := [10]) (by kernel_rfl) (by simp) ?_
              refine AllReadyH.cons rfl (fun K hK => ?_) AllReadyH.nil
              rw [if_pos (by rfl)]
              go_simp
              refine (hon.out wr.drew).mono ?_
              rintro e Z2 ⟨rfl, hz2⟩
              have hS2 : (fun w' => w'.cell? ⟨b, o + k * 4 + 1, none⟩ = some (.int .i64 kk) ∧ w'.cell? ⟨b, o + k * 4 + 2, none⟩ = some (.int .i64 ok) ∧ w'.cell? ⟨b, o + k * 4 + 3, none⟩ = some (.int .i64 nk) ∧ w'.cell? ⟨b, o + j * 4 + 1, none⟩ = some (.int .i64 7) ∧ w'.cell? ⟨b, o + j * 4 + 2, none⟩ = some (.int .i64 oj) ∧ w'.cell? ⟨b, o + j * 4 + 3, none⟩ = some (.int .i64 nj)) Z2 := ⟨stay hz2 y1, stay hz2 y2, stay hz2 y3, stay hz2 z1, stay hz2 z2, stay hz2 z3⟩
              replace hz2 := hid_of hz2
              refine hK.out _ _ hS2 (fun hHeld => ?_)
              clear hK K
              refine wpAnyH_take (i := 11) (v := .bool false) rfl (by kernel_rfl) (by kernel_rfl) (by kernel_rfl) (fun _ _ _ h => (h : False).elim) (Or.inl ⟨by rfl, (by intro w' hS; go_simp)⟩) hHeld ?_
              simp only [Act.put, List.getElem_toArray, List.getElem_cons_zero, List.getElem_cons_succ, List.setIfInBounds_toArray, List.set_cons_zero, List.set_cons_succ]
              refine wpAnyH_take (i := 12) (v := undef) rfl (by kernel_rfl) (by kernel_rfl) (by kernel_rfl) (fun _ _ _ h => (h : False).elim) (Or.inr ⟨by rfl, rfl⟩) hHeld ?_
              simp only [Act.put, List.getElem_toArray, List.getElem_cons_zero, List.getElem_cons_succ, List.setIfInBounds_toArray, List.set_cons_zero, List.set_cons_succ]
              refine wpAnyH_take (i := 13) (v := undef) rfl (by kernel_rfl) (by kernel_rfl) (by kernel_rfl) (fun _ _ _ h => (h : False).elim) (Or.inr ⟨by rfl, rfl⟩) hHeld ?_
              simp only [Act.put, List.getElem_toArray, List.getElem_cons_zero, List.getElem_cons_succ, List.setIfInBounds_toArray, List.set_cons_zero, List.set_cons_succ]
              refine wpAnyH_take (i := 14) (v := undef) rfl (by kernel_rfl) (by kernel_rfl) (by kernel_rfl) (fun _ _ _ h => (h : False).elim) (Or.inr ⟨by rfl, rfl⟩) hHeld ?_
              simp only [Act.put, List.getElem_toArray, List.getElem_cons_zero, List.getElem_cons_succ, List.setIfInBounds_toArray, List.set_cons_zero, List.set_cons_succ]
              refine wpAnyH_take (i := 15) (v := undef) rfl (by kernel_rfl) (by kernel_rfl) (by kernel_rfl) (fun _ _ _ h => (h : False).elim) (Or.inr ⟨by rfl, rfl⟩) hHeld ?_
              simp only [Act.put, List.getElem_toArray, List.getElem_cons_zero, List.getElem_cons_succ, List.setIfInBounds_toArray, List.set_cons_zero, List.set_cons_succ]
              refine wpAnyH_take (i := 16) (v := undef) rfl (by kernel_rfl) (by kernel_rfl) (by kernel_rfl) (fun _ _ _ h => (h : False).elim) (Or.inr ⟨by rfl, rfl⟩) hHeld ?_
              simp only [Act.put, List.getElem_toArray, List.getElem_cons_zero, List.getElem_cons_succ, List.setIfInBounds_toArray, List.set_cons_zero, List.set_cons_succ]
              refine wpAnyH_take (i := 17) (v := undef) rfl (by kernel_rfl) (by kernel_rfl) (by kernel_rfl) (fun _ _ _ h => (h : False).elim) (Or.inr ⟨by rfl, rfl⟩) hHeld ?_
              simp only [Act.put, List.getElem_toArray, List.getElem_cons_zero, List.getElem_cons_succ, List.setIfInBounds_toArray, List.set_cons_zero, List.set_cons_succ]
              refine wpAnyH_take (i := 18) (v := undef) rfl (by kernel_rfl) (by kernel_rfl) (by kernel_rfl) (fun _ _ _ h => (h : False).elim) (Or.inr ⟨by rfl, rfl⟩) hHeld ?_
              simp only [Act.put, List.getElem_toArray, List.getElem_cons_zero, List.getElem_cons_succ, List.setIfInBounds_toArray, List.set_cons_zero, List.set_cons_succ]
              refine wpAnyH_take (i := 19) (v := .bool false) rfl (by kernel_rfl) (by kernel_rfl) (by kernel_rfl) (fun _ _ _ h => (h : False).elim) (Or.inl ⟨by rfl, (by intro w' hS; go_simp)⟩) hHeld ?_
              simp only [Act.put, List.getElem_toArray, List.getElem_cons_zero, List.getElem_cons_succ, List.setIfInBounds_toArray, List.set_cons_zero, List.set_cons_succ]
              refine wpAnyH_done (by kernel_rfl) ?_ _
              refine NoPanic.normal ?_
              have hBz : Hid (Below w.heap.size w Z2) := (below_drew hBr.out).trans (hz2.out.mono hBr.out.size)
              go_wp2_with fail
              go_roundw
              case rel => exact ⟨k + 1, by go_num, by omega, by omega, by unfold Hid; rw [show k + 1 - (i + 1) = (k - (i + 1)) + 1 by omega]; simp only [noStore]; rw [hm.out, show i + 1 + (k - (i + 1)) = k by omega, hso.out]; rfl, hBz.out⟩
              case measure =>
                simp only [intOf]
                omega
            | true =>
              by_cases h6 : kk = 6
              · subst h6
                have hso : Hid (storeOf evs k ⟨cj, 7, oj, nj⟩ = true) := by unfold Hid storeOf; rw [hek.out]; simp only; rw [Bool.and_assoc, ht.out]; simp
                obtain rfl : false = v := by
                  rw [← hv2.out]
                  cases hq : noStore evs ⟨cj, 7, oj, nj⟩ (i + 1) (j - (i + 1)) with
                  | false => rfl
                  | true => have := noStore_at hq k hk1 (by omega); rw [hso.out] at this; cases this
                go_upto_region 15 with fail
                go_region_held3 (fun w' => w'.cell? ⟨b, o + k * 4 + 1, none⟩ = some (.int .i64 6) ∧ w'.cell? ⟨b, o + k * 4 + 2, none⟩ = some (.int .i64 ok) ∧ w'.cell? ⟨b, o + k * 4 + 3, none⟩ = some (.int .i64 nk) ∧ w'.cell? ⟨b, o + j * 4 + 1, none⟩ = some (.int .i64 7) ∧ w'.cell? ⟨b, o + j * 4 + 2, none⟩ = some (.int .i64 oj) ∧ w'.cell? ⟨b, o + j * 4 + 3, none⟩ = some (.int .i64 nj)) (go_keep) (first
                  | (refine (hon.out wr.drew).mono ?_; rintro e Z2 ⟨rfl, hz2⟩; have s0 : Z2.cell? ⟨b, o + k * 4 + 1, none⟩ = some (.int .i64 6) := stay hz2 y1; have s1 : Z2.cell? ⟨b, o + k * 4 + 2, none⟩ = some (.int .i64 ok) := stay hz2 y2; have s2 : Z2.cell? ⟨b, o + k * 4 + 3, none⟩ = some (.int .i64 nk) := stay hz2 y3; have s3 : Z2.cell? ⟨b, o + j * 4 + 1, none⟩ = some (.int .i64 7) := stay hz2 z1; have s4 : Z2.cell? ⟨b, o + j * 4 + 2, none⟩ = some (.int .i64 oj) := stay hz2 z2; have s5 : Z2.cell? ⟨b, o + j * 4 + 3, none⟩ = some (.int .i64 nj) := stay hz2 z3; replace hz2 := hid_of hz2))
                clear s0 s1 s2 s3 s4 s5
                have hBz : Hid (Below w.heap.size w Z2) := (below_drew hBr.out).trans (hz2.out.mono hBr.out.size)
                go_wp2_with fail
                exact bodyPost_ret (v := .bool false) (by simp [results, Try.results23, go_sem]) rfl ⟨rfl, hBz.out⟩
              · have h6d : decide (kk = 6) = false := decide_eq_false h6
                have h6b : (kk == 6) = false := by simp [h6]
                have hso : Hid (storeOf evs k ⟨cj, 7, oj, nj⟩ = false) := by unfold Hid storeOf; rw [hek.out]; simp [h6]
                go_upto_region 15 with fail
                go_region_held3 (fun w' => w'.cell? ⟨b, o + k * 4 + 1, none⟩ = some (.int .i64 kk) ∧ w'.cell? ⟨b, o + k * 4 + 2, none⟩ = some (.int .i64 ok) ∧ w'.cell? ⟨b, o + k * 4 + 3, none⟩ = some (.int .i64 nk) ∧ w'.cell? ⟨b, o + j * 4 + 1, none⟩ = some (.int .i64 7) ∧ w'.cell? ⟨b, o + j * 4 + 2, none⟩ = some (.int .i64 oj) ∧ w'.cell? ⟨b, o + j * 4 + 3, none⟩ = some (.int .i64 nj)) (go_keep) (first
                  | (refine (hon.out wr.drew).mono ?_; rintro e Z2 ⟨rfl, hz2⟩; have s0 : Z2.cell? ⟨b, o + k * 4 + 1, none⟩ = some (.int .i64 kk) := stay hz2 y1; have s1 : Z2.cell? ⟨b, o + k * 4 + 2, none⟩ = some (.int .i64 ok) := stay hz2 y2; have s2 : Z2.cell? ⟨b, o + k * 4 + 3, none⟩ = some (.int .i64 nk) := stay hz2 y3; have s3 : Z2.cell? ⟨b, o + j * 4 + 1, none⟩ = some (.int .i64 7) := stay hz2 z1; have s4 : Z2.cell? ⟨b, o + j * 4 + 2, none⟩ = some (.int .i64 oj) := stay hz2 z2; have s5 : Z2.cell? ⟨b, o + j * 4 + 3, none⟩ = some (.int .i64 nj) := stay hz2 z3; replace hz2 := hid_of hz2))
                clear s0 s1 s2 s3 s4 s5
                have hBz : Hid (Below w.heap.size w Z2) := (below_drew hBr.out).trans (hz2.out.mono hBr.out.size)
                go_wp2_with fail
                go_roundw
                case rel => exact ⟨k + 1, by go_num, by omega, by omega, by unfold Hid; rw [show k + 1 - (i + 1) = (k - (i + 1)) + 1 by omega]; simp only [noStore]; rw [hm.out, show i + 1 + (k - (i + 1)) = k by omega, hso.out]; rfl, hBz.out⟩
                case measure =>
                  simp only [intOf]
                  omega
          · obtain rfl : k = j := by omega
            obtain rfl : true = v := by rw [← hv2.out, hm.out]
            go_wp2_with fail
            exact bodyPost_ret (v := .bool true) (by simp [results, Try.results23, go_sem]) rfl ⟨rfl, hBr⟩
      · go_wp2_with fail
        go_loopw [9] (fun kv wr => ∃ k : Nat, kv = .int .i64 (k : Nat) ∧ i + 1 ≤ k ∧ k ≤ j ∧ Hid (noStore evs ⟨cj, 5, oj, nj⟩ (i + 1) (k - (i + 1)) = true) ∧ Below w.heap.size w wr) (fun kv _ => j - (intOf kv).toNat)
        case atStart => exact ⟨i + 1, by go_num, Nat.le_refl _, by omega, by unfold Hid; rw [Nat.sub_self]; rfl, hBZ.out⟩
        case round =>
          obtain ⟨k, rfl, hk1, hk2, hm, hBr⟩ := hrel
          clear t0 t1 t2 t3 t4 t5
          by_cases hkj : k < j
          · obtain ⟨ek, hek⟩ : ∃ ek, Hid (evs[k]? = some ek) := ⟨evs[k]'(by have := hn.out; omega), List.getElem?_eq_getElem (by have := hn.out; omega)⟩
            obtain ⟨bk, ok', hbo, hb1, y0, y1, y2, y3⟩ := (hE.out.keep hBr) k _ hek.out
            cases hbo
            obtain ⟨bj, oj', hbo, hb2, z0, z1, z2, z3⟩ := (hE.out.keep hBr) j _ hej.out
            cases hbo
            obtain ⟨ck, kk, ok, nk⟩ := ek
            simp only at y0 y1 y2 y3 z0 z1 z2 z3
            have hkn : k < n := by omega
            obtain ⟨t, ht⟩ : ∃ t, Hid ((decide (ok = oj) && decide (nk = nj)) = t) := ⟨_, rfl⟩
            have hon := hid_of (fun w => hof.out kk ok nk 5 oj nj w)
            rw [ht.out] at hon
            replace hBr := hid_of hBr
            clear y0 z0
            cases t with
            | false =>
              have hso : Hid (storeOf evs k ⟨cj, 5, oj, nj⟩ = false) := by unfold Hid storeOf; rw [hek.out]; simp only; rw [Bool.and_assoc, ht.out]; simp
              go_upto_region 15 with fail
              refine wp_region_noPanic ?_
              refine wp_region_held_drew (S := (fun w' => w'.cell? ⟨b, o + k * 4 + 1, none⟩ = some (.int .i64 kk) ∧ w'.cell? ⟨b, o + k * 4 + 2, none⟩ = some (.int .i64 ok) ∧ w'.cell? ⟨b, o + k * 4 + 3, none⟩ = some (.int .i64 nk) ∧ w'.cell? ⟨b, o + j * 4 + 1, none⟩ = some (.int .i64 5) ∧ w'.cell? ⟨b, o + j * 4 + 2, none⟩ = some (.int .i64 oj) ∧ w'.cell? ⟨b, o + j * 4 + 3, none⟩ = some (.int .i64 nj))) (by kernel_rfl) ⟨y1, y2, y3, z1, z2, z3⟩ (fun hHeld => ?_)
              refine wpAnyH_take (i := 0) (v := .slice (some ⟨b, o, none⟩) n cap) rfl (by kernel_rfl) (by kernel_rfl) (by kernel_rfl) (fun _ _ _ h => (h : False).elim) (Or.inl ⟨by rfl, (by intro w' hS; go_simp)⟩) hHeld ?_
              simp only [Act.put, List.getElem_toArray, List.getElem_cons_zero, List.setIfInBounds_toArray, List.set_cons_zero, List.set_cons_succ]
              refine wpAnyH_take (i := 1) (v := .int .i64 (k : Nat)) rfl (by kernel_rfl) (by kernel_rfl) (by kernel_rfl) (fun _ _ _ h => (h : False).elim) (Or.inl ⟨by rfl, (by intro w' hS; go_simp)⟩) hHeld ?_
              simp only [Act.put, List.getElem_toArray, List.getElem_cons_zero, List.getElem_cons_succ, List.setIfInBounds_toArray, List.set_cons_zero, List.set_cons_succ]
              refine wpAnyH_take (i := 2) (v := .pointer (some ⟨b, o + k * 4, none⟩)) rfl (by kernel_rfl) (by kernel_rfl) (by kernel_rfl) (fun _ _ _ h => (h : False).elim) (Or.inl ⟨by rfl, (by intro w' hS; go_simp)⟩) hHeld ?_
              simp only [Act.put, List.getElem_toArray, List.getElem_cons_zero, List.getElem_cons_succ, List.setIfInBounds_toArray, List.set_cons_zero, List.set_cons_succ]
              refine wpAnyH_take (i := 3) (v := .pointer (some ⟨b, o + k * 4 + 1, none⟩)) rfl (by kernel_rfl) (by kernel_rfl) (by kernel_rfl) (fun _ _ _ h => (h : False).elim) (Or.inl ⟨by rfl, (by intro w' hS; go_simp)⟩) hHeld ?_
              simp only [Act.put, List.getElem_toArray, List.getElem_cons_zero, List.getElem_cons_succ, List.setIfInBounds_toArray, List.set_cons_zero, List.set_cons_succ]
              refine wpAnyH_take (i := 4) (v := .agg #[.int .i64 kk, .int .i64 ok, .int .i64 nk]) rfl (by kernel_rfl) (by kernel_rfl) (by kernel_rfl) (fun _ _ _ h => (h : False).elim) (Or.inl ⟨by rfl, (by intro w' hS; obtain ⟨g1, g2, g3, g4, g5, g6⟩ := hS; go_simp)⟩) hHeld ?_
              simp only [Act.put, List.getElem_toArray, List.getElem_cons_zero, List.getElem_cons_succ, List.setIfInBounds_toArray, List.set_cons_zero, List.set_cons_succ]
              refine wpAnyH_take (i := 5) (v := .slice (some ⟨b, o, none⟩) n cap) rfl (by kernel_rfl) (by kernel_rfl) (by kernel_rfl) (fun _ _ _ h => (h : False).elim) (Or.inl ⟨by rfl, (by intro w' hS; go_simp)⟩) hHeld ?_
              simp only [Act.put, List.getElem_toArray, List.getElem_cons_zero, List.getElem_cons_succ, List.setIfInBounds_toArray, List.set_cons_zero, List.set_cons_succ]
              refine wpAnyH_take (i := 6) (v := .int .i64 (j : Nat)) rfl (by kernel_rfl) (by kernel_rfl) (by kernel_rfl) (fun _ _ _ h => (h : False).elim) (Or.inl ⟨by rfl, (by intro w' hS; go_simp)⟩) hHeld ?_
              simp only [Act.put, List.getElem_toArray, List.getElem_cons_zero, List.getElem_cons_succ, List.setIfInBounds_toArray, List.set_cons_zero, List.set_cons_succ]
              refine wpAnyH_take (i := 7) (v := .pointer (some ⟨b, o + j * 4, none⟩)) rfl (by kernel_rfl) (by kernel_rfl) (by kernel_rfl) (fun _ _ _ h => (h : False).elim) (Or.inl ⟨by rfl, (by intro w' hS; go_simp)⟩) hHeld ?_
              simp only [Act.put, List.getElem_toArray, List.getElem_cons_zero, List.getElem_cons_succ, List.setIfInBounds_toArray, List.set_cons_zero, List.set_cons_succ]
              refine wpAnyH_take (i := 8) (v := .pointer (some ⟨b, o + j * 4 + 1, none⟩)) rfl (by kernel_rfl) (by kernel_rfl) (by kernel_rfl) (fun _ _ _ h => (h : False).elim) (Or.inl ⟨by rfl, (by intro w' hS; go_simp)⟩) hHeld ?_
              simp only [Act.put, List.getElem_toArray, List.getElem_cons_zero, List.getElem_cons_succ, List.setIfInBounds_toArray, List.set_cons_zero, List.set_cons_succ]
              refine wpAnyH_take (i := 9) (v := .agg #[.int .i64 5, .int .i64 oj, .int .i64 nj]) rfl (by kernel_rfl) (by kernel_rfl) (by kernel_rfl) (fun _ _ _ h => (h : False).elim) (Or.inl ⟨by rfl, (by intro w' hS; obtain ⟨g1, g2, g3, g4, g5, g6⟩ := hS; go_simp)⟩) hHeld ?_
              simp only [Act.put, List.getElem_toArray, List.getElem_cons_zero, List.getElem_cons_succ, List.setIfInBounds_toArray, List.set_cons_zero, List.set_cons_succ]
              refine wpAnyH_ready (rs := [10]) (by kernel_rfl) (by simp) ?_
              refine AllReadyH.cons rfl (fun K hK => ?_) AllReadyH.nil
              rw [if_pos (by rfl)]
              go_simp
              refine (hon.out wr.drew).mono ?_
              rintro e Z2 ⟨rfl, hz2⟩
              have hS2 : (fun w' => w'.cell? ⟨b, o + k * 4 + 1, none⟩ = some (.int .i64 kk) ∧ w'.cell? ⟨b, o + k * 4 + 2, none⟩ = some (.int .i64 ok) ∧ w'.cell? ⟨b, o + k * 4 + 3, none⟩ = some (.int .i64 nk) ∧ w'.cell? ⟨b, o + j * 4 + 1, none⟩ = some (.int .i64 5) ∧ w'.cell? ⟨b, o + j * 4 + 2, none⟩ = some (.int .i64 oj) ∧ w'.cell? ⟨b, o + j * 4 + 3, none⟩ = some (.int .i64 nj)) Z2 := ⟨stay hz2 y1, stay hz2 y2, stay hz2 y3, stay hz2 z1, stay hz2 z2, stay hz2 z3⟩
              replace hz2 := hid_of hz2
              refine hK.out _ _ hS2 (fun hHeld => ?_)
              clear hK K
              refine wpAnyH_take (i := 11) (v := .bool false) rfl (by kernel_rfl) (by kernel_rfl) (by kernel_rfl) (fun _ _ _ h => (h : False).elim) (Or.inl ⟨by rfl, (by intro w' hS; go_simp)⟩) hHeld ?_
              simp only [Act.put, List.getElem_toArray, List.getElem_cons_zero, List.getElem_cons_succ, List.setIfInBounds_toArray, List.set_cons_zero, List.set_cons_succ]
              refine wpAnyH_take (i := 12) (v := undef) rfl (by kernel_rfl) (by kernel_rfl) (by kernel_rfl) (fun _ _ _ h => (h : False).elim) (Or.inr ⟨by rfl, rfl⟩) hHeld ?_
              simp only [Act.put, List.getElem_toArray, List.getElem_cons_zero, List.getElem_cons_succ, List.setIfInBounds_toArray, List.set_cons_zero, List.set_cons_succ]
              refine wpAnyH_take (i := 13) (v := undef) rfl (by kernel_rfl) (by kernel_rfl) (by kernel_rfl) (fun _ _ _ h => (h : False).elim) (Or.inr ⟨by rfl, rfl⟩) hHeld ?_
              simp only [Act.put, List.getElem_toArray, List.getElem_cons_zero, List.getElem_cons_succ, List.setIfInBounds_toArray, List.set_cons_zero, List.set_cons_succ]
              refine wpAnyH_take (i := 14) (v := undef) rfl (by kernel_rfl) (by kernel_rfl) (by kernel_rfl) (fun _ _ _ h => (h : False).elim) (Or.inr ⟨by rfl, rfl⟩) hHeld ?_
              simp only [Act.put, List.getElem_toArray, List.getElem_cons_zero, List.getElem_cons_succ, List.setIfInBounds_toArray, List.set_cons_zero, List.set_cons_succ]
              refine wpAnyH_take (i := 15) (v := undef) rfl (by kernel_rfl) (by kernel_rfl) (by kernel_rfl) (fun _ _ _ h => (h : False).elim) (Or.inr ⟨by rfl, rfl⟩) hHeld ?_
              simp only [Act.put, List.getElem_toArray, List.getElem_cons_zero, List.getElem_cons_succ, List.setIfInBounds_toArray, List.set_cons_zero, List.set_cons_succ]
              refine wpAnyH_take (i := 16) (v := undef) rfl (by kernel_rfl) (by kernel_rfl) (by kernel_rfl) (fun _ _ _ h => (h : False).elim) (Or.inr ⟨by rfl, rfl⟩) hHeld ?_
              simp only [Act.put, List.getElem_toArray, List.getElem_cons_zero, List.getElem_cons_succ, List.setIfInBounds_toArray, List.set_cons_zero, List.set_cons_succ]
              refine wpAnyH_take (i := 17) (v := undef) rfl (by kernel_rfl) (by kernel_rfl) (by kernel_rfl) (fun _ _ _ h => (h : False).elim) (Or.inr ⟨by rfl, rfl⟩) hHeld ?_
              simp only [Act.put, List.getElem_toArray, List.getElem_cons_zero, List.getElem_cons_succ, List.setIfInBounds_toArray, List.set_cons_zero, List.set_cons_succ]
              refine wpAnyH_take (i := 18) (v := undef) rfl (by kernel_rfl) (by kernel_rfl) (by kernel_rfl) (fun _ _ _ h => (h : False).elim) (Or.inr ⟨by rfl, rfl⟩) hHeld ?_
              simp only [Act.put, List.getElem_toArray, List.getElem_cons_zero, List.getElem_cons_succ, List.setIfInBounds_toArray, List.set_cons_zero, List.set_cons_succ]
              refine wpAnyH_take (i := 19) (v := .bool false) rfl (by kernel_rfl) (by kernel_rfl) (by kernel_rfl) (fun _ _ _ h => (h : False).elim) (Or.inl ⟨by rfl, (by intro w' hS; go_simp)⟩) hHeld ?_
              simp only [Act.put, List.getElem_toArray, List.getElem_cons_zero, List.getElem_cons_succ, List.setIfInBounds_toArray, List.set_cons_zero, List.set_cons_succ]
              refine wpAnyH_done (by kernel_rfl) ?_ _
              refine NoPanic.normal ?_
              have hBz : Hid (Below w.heap.size w Z2) := (below_drew hBr.out).trans (hz2.out.mono hBr.out.size)
              go_wp2_with fail
              go_roundw
              case rel => exact ⟨k + 1, by go_num, by omega, by omega, by unfold Hid; rw [show k + 1 - (i + 1) = (k - (i + 1)) + 1 by omega]; simp only [noStore]; rw [hm.out, show i + 1 + (k - (i + 1)) = k by omega, hso.out]; rfl, hBz.out⟩
              case measure =>
                simp only [intOf]
                omega
            | true =>
              by_cases h6 : kk = 6
              · subst h6
                have hso : Hid (storeOf evs k ⟨cj, 5, oj, nj⟩ = true) := by unfold Hid storeOf; rw [hek.out]; simp only; rw [Bool.and_assoc, ht.out]; simp
                obtain rfl : false = v := by
                  rw [← hv2.out]
                  cases hq : noStore evs ⟨cj, 5, oj, nj⟩ (i + 1) (j - (i + 1)) with
                  | false => rfl
                  | true => have := noStore_at hq k hk1 (by omega); rw [hso.out] at this; cases this
                go_upto_region 15 with fail
                go_region_held3 (fun w' => w'.cell? ⟨b, o + k * 4 + 1, none⟩ = some (.int .i64 6) ∧ w'.cell? ⟨b, o + k * 4 + 2, none⟩ = some (.int .i64 ok) ∧ w'.cell? ⟨b, o + k * 4 + 3, none⟩ = some (.int .i64 nk) ∧ w'.cell? ⟨b, o + j * 4 + 1, none⟩ = some (.int .i64 5) ∧ w'.cell? ⟨b, o + j * 4 + 2, none⟩ = some (.int .i64 oj) ∧ w'.cell? ⟨b, o + j * 4 + 3, none⟩ = some (.int .i64 nj)) (go_keep) (first
                  | (refine (hon.out wr.drew).mono ?_; rintro e Z2 ⟨rfl, hz2⟩; have s0 : Z2.cell? ⟨b, o + k * 4 + 1, none⟩ = some (.int .i64 6) := stay hz2 y1; have s1 : Z2.cell? ⟨b, o + k * 4 + 2, none⟩ = some (.int .i64 ok) := stay hz2 y2; have s2 : Z2.cell? ⟨b, o + k * 4 + 3, none⟩ = some (.int .i64 nk) := stay hz2 y3; have s3 : Z2.cell? ⟨b, o + j * 4 + 1, none⟩ = some (.int .i64 5) := stay hz2 z1; have s4 : Z2.cell? ⟨b, o + j * 4 + 2, none⟩ = some (.int .i64 oj) := stay hz2 z2; have s5 : Z2.cell? ⟨b, o + j * 4 + 3, none⟩ = some (.int .i64 nj) := stay hz2 z3; replace hz2 := hid_of hz2))
                clear s0 s1 s2 s3 s4 s5
                have hBz : Hid (Below w.heap.size w Z2) := (below_drew hBr.out).trans (hz2.out.mono hBr.out.size)
                go_wp2_with fail
                exact bodyPost_ret (v := .bool false) (by simp [results, Try.results23, go_sem]) rfl ⟨rfl, hBz.out⟩
              · have h6d : decide (kk = 6) = false := decide_eq_false h6
                have h6b : (kk == 6) = false := by simp [h6]
                have hso : Hid (storeOf evs k ⟨cj, 5, oj, nj⟩ = false) := by unfold Hid storeOf; rw [hek.out]; simp [h6]
                go_upto_region 15 with fail
                go_region_held3 (fun w' => w'.cell? ⟨b, o + k * 4 + 1, none⟩ = some (.int .i64 kk) ∧ w'.cell? ⟨b, o + k * 4 + 2, none⟩ = some (.int .i64 ok) ∧ w'.cell? ⟨b, o + k * 4 + 3, none⟩ = some (.int .i64 nk) ∧ w'.cell? ⟨b, o + j * 4 + 1, none⟩ = some (.int .i64 5) ∧ w'.cell? ⟨b, o + j * 4 + 2, none⟩ = some (.int .i64 oj) ∧ w'.cell? ⟨b, o + j * 4 + 3, none⟩ = some (.int .i64 nj)) (go_keep) (first
                  | (refine (hon.out wr.drew).mono ?_; rintro e Z2 ⟨rfl, hz2⟩; have s0 : Z2.cell? ⟨b, o + k * 4 + 1, none⟩ = some (.int .i64 kk) := stay hz2 y1; have s1 : Z2.cell? ⟨b, o + k * 4 + 2, none⟩ = some (.int .i64 ok) := stay hz2 y2; have s2 : Z2.cell? ⟨b, o + k * 4 + 3, none⟩ = some (.int .i64 nk) := stay hz2 y3; have s3 : Z2.cell? ⟨b, o + j * 4 + 1, none⟩ = some (.int .i64 5) := stay hz2 z1; have s4 : Z2.cell? ⟨b, o + j * 4 + 2, none⟩ = some (.int .i64 oj) := stay hz2 z2; have s5 : Z2.cell? ⟨b, o + j * 4 + 3, none⟩ = some (.int .i64 nj) := stay hz2 z3; replace hz2 := hid_of hz2))
                clear s0 s1 s2 s3 s4 s5
                have hBz : Hid (Below w.heap.size w Z2) := (below_drew hBr.out).trans (hz2.out.mono hBr.out.size)
                go_wp2_with fail
                go_roundw
                case rel => exact ⟨k + 1, by go_num, by omega, by omega, by unfold Hid; rw [show k + 1 - (i + 1) = (k - (i + 1)) + 1 by omega]; simp only [noStore]; rw [hm.out, show i + 1 + (k - (i + 1)) = k by omega, hso.out]; rfl, hBz.out⟩
                case measure =>
                  simp only [intOf]
                  omega
          · obtain rfl : k = j := by omega
            obtain rfl : true = v := by rw [← hv2.out, hm.out]
            go_wp2_with fail
            exact bodyPost_ret (v := .bool true) (by simp [results, Try.results23, go_sem]) rfl ⟨rfl, hBr⟩
      · go_wp2_with fail
        go_loopw [9] (fun kv wr => ∃ k : Nat, kv = .int .i64 (k : Nat) ∧ i + 1 ≤ k ∧ k ≤ j ∧ Hid (noStore evs ⟨cj, 7, oj, nj⟩ (i + 1) (k - (i + 1)) = true) ∧ Below w.heap.size w wr) (fun kv _ => j - (intOf kv).toNat)
        case atStart => exact ⟨i + 1, by go_num, Nat.le_refl _, by omega, by unfold Hid; rw [Nat.sub_self]; rfl, hBZ.out⟩
        case round =>
          obtain ⟨k, rfl, hk1, hk2, hm, hBr⟩ := hrel
          clear t0 t1 t2 t3 t4 t5
          by_cases hkj : k < j
          · obtain ⟨ek, hek⟩ : ∃ ek, Hid (evs[k]? = some ek) := ⟨evs[k]'(by have := hn.out; omega), List.getElem?_eq_getElem (by have := hn.out; omega)⟩
            obtain ⟨bk, ok', hbo, hb1, y0, y1, y2, y3⟩ := (hE.out.keep hBr) k _ hek.out
            cases hbo
            obtain ⟨bj, oj', hbo, hb2, z0, z1, z2, z3⟩ := (hE.out.keep hBr) j _ hej.out
            cases hbo
            obtain ⟨ck, kk, ok, nk⟩ := ek
            simp only at y0 y1 y2 y3 z0 z1 z2 z3
            have hkn : k < n := by omega
            obtain ⟨t, ht⟩ : ∃ t, Hid ((decide (ok = oj) && decide (nk = nj)) = t) := ⟨_, rfl⟩
            have hon := hid_of (fun w => hof.out kk ok nk 7 oj nj w)
            rw [ht.out] at hon
            replace hBr := hid_of hBr
            clear y0 z0
            cases t with
            | false =>
              have hso : Hid (storeOf evs k ⟨cj, 7, oj, nj⟩ = false) := by unfold Hid storeOf; rw [hek.out]; simp only; rw [Bool.and_assoc, ht.out]; simp
              go_upto_region 15 with fail
              refine wp_region_noPanic ?_
              refine wp_region_held_drew (S := (fun w' => w'.cell? ⟨b, o + k * 4 + 1, none⟩ = some (.int .i64 kk) ∧ w'.cell? ⟨b, o + k * 4 + 2, none⟩ = some (.int .i64 ok) ∧ w'.cell? ⟨b, o + k * 4 + 3, none⟩ = some (.int .i64 nk) ∧ w'.cell? ⟨b, o + j * 4 + 1, none⟩ = some (.int .i64 7) ∧ w'.cell? ⟨b, o + j * 4 + 2, none⟩ = some (.int .i64 oj) ∧ w'.cell? ⟨b, o + j * 4 + 3, none⟩ = some (.int .i64 nj))) (by kernel_rfl) ⟨y1, y2, y3, z1, z2, z3⟩ (fun hHeld => ?_)
              refine wpAnyH_take (i := 0) (v := .slice (some ⟨b, o, none⟩) n cap) rfl (by kernel_rfl) (by kernel_rfl) (by kernel_rfl) (fun _ _ _ h => (h : False).elim) (Or.inl ⟨by rfl, (by intro w' hS; go_simp)⟩) hHeld ?_
              simp only [Act.put, List.getElem_toArray, List.getElem_cons_zero, List.setIfInBounds_toArray, List.set_cons_zero, List.set_cons_succ]
              refine wpAnyH_take (i := 1) (v := .int .i64 (k : Nat)) rfl (by kernel_rfl) (by kernel_rfl) (by kernel_rfl) (fun _ _ _ h => (h : False).elim) (Or.inl ⟨by rfl, (by intro w' hS; go_simp)⟩) hHeld ?_
              simp only [Act.put, List.getElem_toArray, List.getElem_cons_zero, List.getElem_cons_succ, List.setIfInBounds_toArray, List.set_cons_zero, List.set_cons_succ]
              refine wpAnyH_take (i := 2) (v := .pointer (some ⟨b, o + k * 4, none⟩)) rfl (by kernel_rfl) (by kernel_rfl) (by kernel_rfl) (fun _ _ _ h => (h : False).elim) (Or.inl ⟨by rfl, (by intro w' hS; go_simp)⟩) hHeld ?_
              simp only [Act.put, List.getElem_toArray, List.getElem_cons_zero, List.getElem_cons_succ, List.setIfInBounds_toArray, List.set_cons_zero, List.set_cons_succ]
              refine wpAnyH_take (i := 3) (v := .pointer (some ⟨b, o + k * 4 + 1, none⟩)) rfl (by kernel_rfl) (by kernel_rfl) (by kernel_rfl) (fun _ _ _ h => (h : False).elim) (Or.inl ⟨by rfl, (by intro w' hS; go_simp)⟩) hHeld ?_
              simp only [Act.put, List.getElem_toArray, List.getElem_cons_zero, List.getElem_cons_succ, List.setIfInBounds_toArray, List.set_cons_zero, List.set_cons_succ]
              refine wpAnyH_take (i := 4) (v := .agg #[.int .i64 kk, .int .i64 ok, .int .i64 nk]) rfl (by kernel_rfl) (by kernel_rfl) (by kernel_rfl) (fun _ _ _ h => (h : False).elim) (Or.inl ⟨by rfl, (by intro w' hS; obtain ⟨g1, g2, g3, g4, g5, g6⟩ := hS; go_simp)⟩) hHeld ?_
              simp only [Act.put, List.getElem_toArray, List.getElem_cons_zero, List.getElem_cons_succ, List.setIfInBounds_toArray, List.set_cons_zero, List.set_cons_succ]
              refine wpAnyH_take (i := 5) (v := .slice (some ⟨b, o, none⟩) n cap) rfl (by kernel_rfl) (by kernel_rfl) (by kernel_rfl) (fun _ _ _ h => (h : False).elim) (Or.inl ⟨by rfl, (by intro w' hS; go_simp)⟩) hHeld ?_
              simp only [Act.put, List.getElem_toArray, List.getElem_cons_zero, List.getElem_cons_succ, List.setIfInBounds_toArray, List.set_cons_zero, List.set_cons_succ]
              refine wpAnyH_take (i := 6) (v := .int .i64 (j : Nat)) rfl (by kernel_rfl) (by kernel_rfl) (by kernel_rfl) (fun _ _ _ h => (h : False).elim) (Or.inl ⟨by rfl, (by intro w' hS; go_simp)⟩) hHeld ?_
              simp only [Act.put, List.getElem_toArray, List.getElem_cons_zero, List.getElem_cons_succ, List.setIfInBounds_toArray, List.set_cons_zero, List.set_cons_succ]
              refine wpAnyH_take (i := 7) (v := .pointer (some ⟨b, o + j * 4, none⟩)) rfl (by kernel_rfl) (by kernel_rfl) (by kernel_rfl) (fun _ _ _ h => (h : False).elim) (Or.inl ⟨by rfl, (by intro w' hS; go_simp)⟩) hHeld ?_
              simp only [Act.put, List.getElem_toArray, List.getElem_cons_zero, List.getElem_cons_succ, List.setIfInBounds_toArray, List.set_cons_zero, List.set_cons_succ]
              refine wpAnyH_take (i := 8) (v := .pointer (some ⟨b, o + j * 4 + 1, none⟩)) rfl (by kernel_rfl) (by kernel_rfl) (by kernel_rfl) (fun _ _ _ h => (h : False).elim) (Or.inl ⟨by rfl, (by intro w' hS; go_simp)⟩) hHeld ?_
              simp only [Act.put, List.getElem_toArray, List.getElem_cons_zero, List.getElem_cons_succ, List.setIfInBounds_toArray, List.set_cons_zero, List.set_cons_succ]
              refine wpAnyH_take (i := 9) (v := .agg #[.int .i64 7, .int .i64 oj, .int .i64 nj]) rfl (by kernel_rfl) (by kernel_rfl) (by kernel_rfl) (fun _ _ _ h => (h : False).elim) (Or.inl ⟨by rfl, (by intro w' hS; obtain ⟨g1, g2, g3, g4, g5, g6⟩ := hS; go_simp)⟩) hHeld ?_
              simp only [Act.put, List.getElem_toArray, List.getElem_cons_zero, List.getElem_cons_succ, List.setIfInBounds_toArray, List.set_cons_zero, List.set_cons_succ]
              refine wpAnyH_ready (rs := [10]) (by kernel_rfl) (by simp) ?_
              refine AllReadyH.cons rfl (fun K hK => ?_) AllReadyH.nil
              rw [if_pos (by rfl)]
              go_simp
              refine (hon.out wr.drew).mono ?_
              rintro e Z2 ⟨rfl, hz2⟩
              have hS2 : (fun w' => w'.cell? ⟨b, o + k * 4 + 1, none⟩ = some (.int .i64 kk) ∧ w'.cell? ⟨b, o + k * 4 + 2, none⟩ = some (.int .i64 ok) ∧ w'.cell? ⟨b, o + k * 4 + 3, none⟩ = some (.int .i64 nk) ∧ w'.cell? ⟨b, o + j * 4 + 1, none⟩ = some (.int .i64 7) ∧ w'.cell? ⟨b, o + j * 4 + 2, none⟩ = some (.int .i64 oj) ∧ w'.cell? ⟨b, o + j * 4 + 3, none⟩ = some (.int .i64 nj)) Z2 := ⟨stay hz2 y1, stay hz2 y2, stay hz2 y3, stay hz2 z1, stay hz2 z2, stay hz2 z3⟩
              replace hz2 := hid_of hz2
              refine hK.out _ _ hS2 (fun hHeld => ?_)
              clear hK K
              refine wpAnyH_take (i := 11) (v := .bool false) rfl (by kernel_rfl) (by kernel_rfl) (by kernel_rfl) (fun _ _ _ h => (h : False).elim) (Or.inl ⟨by rfl, (by intro w' hS; go_simp)⟩) hHeld ?_
              simp only [Act.put, List.getElem_toArray, List.getElem_cons_zero, List.getElem_cons_succ, List.setIfInBounds_toArray, List.set_cons_zero, List.set_cons_succ]
              refine wpAnyH_take (i := 12) (v := undef) rfl (by kernel_rfl) (by kernel_rfl) (by kernel_rfl) (fun _ _ _ h => (h : False).elim) (Or.inr ⟨by rfl, rfl⟩) hHeld ?_
              simp only [Act.put, List.getElem_toArray, List.getElem_cons_zero, List.getElem_cons_succ, List.setIfInBounds_toArray, List.set_cons_zero, List.set_cons_succ]
              refine wpAnyH_take (i := 13) (v := undef) rfl (by kernel_rfl) (by kernel_rfl) (by kernel_rfl) (fun _ _ _ h => (h : False).elim) (Or.inr ⟨by rfl, rfl⟩) hHeld ?_
              simp only [Act.put, List.getElem_toArray, List.getElem_cons_zero, List.getElem_cons_succ, List.setIfInBounds_toArray, List.set_cons_zero, List.set_cons_succ]
              refine wpAnyH_take (i := 14) (v := undef) rfl (by kernel_rfl) (by kernel_rfl) (by kernel_rfl) (fun _ _ _ h => (h : False).elim) (Or.inr ⟨by rfl, rfl⟩) hHeld ?_
              simp only [Act.put, List.getElem_toArray, List.getElem_cons_zero, List.getElem_cons_succ, List.setIfInBounds_toArray, List.set_cons_zero, List.set_cons_succ]
              refine wpAnyH_take (i := 15) (v := undef) rfl (by kernel_rfl) (by kernel_rfl) (by kernel_rfl) (fun _ _ _ h => (h : False).elim) (Or.inr ⟨by rfl, rfl⟩) hHeld ?_
              simp only [Act.put, List.getElem_toArray, List.getElem_cons_zero, List.getElem_cons_succ, List.setIfInBounds_toArray, List.set_cons_zero, List.set_cons_succ]
              refine wpAnyH_take (i := 16) (v := undef) rfl (by kernel_rfl) (by kernel_rfl) (by kernel_rfl) (fun _ _ _ h => (h : False).elim) (Or.inr ⟨by rfl, rfl⟩) hHeld ?_
              simp only [Act.put, List.getElem_toArray, List.getElem_cons_zero, List.getElem_cons_succ, List.setIfInBounds_toArray, List.set_cons_zero, List.set_cons_succ]
              refine wpAnyH_take (i := 17) (v := undef) rfl (by kernel_rfl) (by kernel_rfl) (by kernel_rfl) (fun _ _ _ h => (h : False).elim) (Or.inr ⟨by rfl, rfl⟩) hHeld ?_
              simp only [Act.put, List.getElem_toArray, List.getElem_cons_zero, List.getElem_cons_succ, List.setIfInBounds_toArray, List.set_cons_zero, List.set_cons_succ]
              refine wpAnyH_take (i := 18) (v := undef) rfl (by kernel_rfl) (by kernel_rfl) (by kernel_rfl) (fun _ _ _ h => (h : False).elim) (Or.inr ⟨by rfl, rfl⟩) hHeld ?_
              simp only [Act.put, List.getElem_toArray, List.getElem_cons_zero, List.getElem_cons_succ, List.setIfInBounds_toArray, List.set_cons_zero, List.set_cons_succ]
              refine wpAnyH_take (i := 19) (v := .bool false) rfl (by kernel_rfl) (by kernel_rfl) (by kernel_rfl) (fun _ _ _ h => (h : False).elim) (Or.inl ⟨by rfl, (by intro w' hS; go_simp)⟩) hHeld ?_
              simp only [Act.put, List.getElem_toArray, List.getElem_cons_zero, List.getElem_cons_succ, List.setIfInBounds_toArray, List.set_cons_zero, List.set_cons_succ]
              refine wpAnyH_done (by kernel_rfl) ?_ _
              refine NoPanic.normal ?_
              have hBz : Hid (Below w.heap.size w Z2) := (below_drew hBr.out).trans (hz2.out.mono hBr.out.size)
              go_wp2_with fail
              go_roundw
              case rel => exact ⟨k + 1, by go_num, by omega, by omega, by unfold Hid; rw [show k + 1 - (i + 1) = (k - (i + 1)) + 1 by omega]; simp only [noStore]; rw [hm.out, show i + 1 + (k - (i + 1)) = k by omega, hso.out]; rfl, hBz.out⟩
              case measure =>
                simp only [intOf]
                omega
            | true =>
              by_cases h6 : kk = 6
              · subst h6
                have hso : Hid (storeOf evs k ⟨cj, 7, oj, nj⟩ = true) := by unfold Hid storeOf; rw [hek.out]; simp only; rw [Bool.and_assoc, ht.out]; simp
                obtain rfl : false = v := by
                  rw [← hv2.out]
                  cases hq : noStore evs ⟨cj, 7, oj, nj⟩ (i + 1) (j - (i + 1)) with
                  | false => rfl
                  | true => have := noStore_at hq k hk1 (by omega); rw [hso.out] at this; cases this
                go_upto_region 15 with fail
                go_region_held3 (fun w' => w'.cell? ⟨b, o + k * 4 + 1, none⟩ = some (.int .i64 6) ∧ w'.cell? ⟨b, o + k * 4 + 2, none⟩ = some (.int .i64 ok) ∧ w'.cell? ⟨b, o + k * 4 + 3, none⟩ = some (.int .i64 nk) ∧ w'.cell? ⟨b, o + j * 4 + 1, none⟩ = some (.int .i64 7) ∧ w'.cell? ⟨b, o + j * 4 + 2, none⟩ = some (.int .i64 oj) ∧ w'.cell? ⟨b, o + j * 4 + 3, none⟩ = some (.int .i64 nj)) (go_keep) (first
                  | (refine (hon.out wr.drew).mono ?_; rintro e Z2 ⟨rfl, hz2⟩; have s0 : Z2.cell? ⟨b, o + k * 4 + 1, none⟩ = some (.int .i64 6) := stay hz2 y1; have s1 : Z2.cell? ⟨b, o + k * 4 + 2, none⟩ = some (.int .i64 ok) := stay hz2 y2; have s2 : Z2.cell? ⟨b, o + k * 4 + 3, none⟩ = some (.int .i64 nk) := stay hz2 y3; have s3 : Z2.cell? ⟨b, o + j * 4 + 1, none⟩ = some (.int .i64 7) := stay hz2 z1; have s4 : Z2.cell? ⟨b, o + j * 4 + 2, none⟩ = some (.int .i64 oj) := stay hz2 z2; have s5 : Z2.cell? ⟨b, o + j * 4 + 3, none⟩ = some (.int .i64 nj) := stay hz2 z3; replace hz2 := hid_of hz2))
                clear s0 s1 s2 s3 s4 s5
                have hBz : Hid (Below w.heap.size w Z2) := (below_drew hBr.out).trans (hz2.out.mono hBr.out.size)
                go_wp2_with fail
                exact bodyPost_ret (v := .bool false) (by simp [results, Try.results23, go_sem]) rfl ⟨rfl, hBz.out⟩
              · have h6d : decide (kk = 6) = false := decide_eq_false h6
                have h6b : (kk == 6) = false := by simp [h6]
                have hso : Hid (storeOf evs k ⟨cj, 7, oj, nj⟩ = false) := by unfold Hid storeOf; rw [hek.out]; simp [h6]
                go_upto_region 15 with fail
                go_region_held3 (fun w' => w'.cell? ⟨b, o + k * 4 + 1, none⟩ = some (.int .i64 kk) ∧ w'.cell? ⟨b, o + k * 4 + 2, none⟩ = some (.int .i64 ok) ∧ w'.cell? ⟨b, o + k * 4 + 3, none⟩ = some (.int .i64 nk) ∧ w'.cell? ⟨b, o + j * 4 + 1, none⟩ = some (.int .i64 7) ∧ w'.cell? ⟨b, o + j * 4 + 2, none⟩ = some (.int .i64 oj) ∧ w'.cell? ⟨b, o + j * 4 + 3, none⟩ = some (.int .i64 nj)) (go_keep) (first
                  | (refine (hon.out wr.drew).mono ?_; rintro e Z2 ⟨rfl, hz2⟩; have s0 : Z2.cell? ⟨b, o + k * 4 + 1, none⟩ = some (.int .i64 kk) := stay hz2 y1; have s1 : Z2.cell? ⟨b, o + k * 4 + 2, none⟩ = some (.int .i64 ok) := stay hz2 y2; have s2 : Z2.cell? ⟨b, o + k * 4 + 3, none⟩ = some (.int .i64 nk) := stay hz2 y3; have s3 : Z2.cell? ⟨b, o + j * 4 + 1, none⟩ = some (.int .i64 7) := stay hz2 z1; have s4 : Z2.cell? ⟨b, o + j * 4 + 2, none⟩ = some (.int .i64 oj) := stay hz2 z2; have s5 : Z2.cell? ⟨b, o + j * 4 + 3, none⟩ = some (.int .i64 nj) := stay hz2 z3; replace hz2 := hid_of hz2))
                clear s0 s1 s2 s3 s4 s5
                have hBz : Hid (Below w.heap.size w Z2) := (below_drew hBr.out).trans (hz2.out.mono hBr.out.size)
                go_wp2_with fail
                go_roundw
                case rel => exact ⟨k + 1, by go_num, by omega, by omega, by unfold Hid; rw [show k + 1 - (i + 1) = (k - (i + 1)) + 1 by omega]; simp only [noStore]; rw [hm.out, show i + 1 + (k - (i + 1)) = k by omega, hso.out]; rfl, hBz.out⟩
                case measure =>
                  simp only [intOf]
                  omega
          · obtain rfl : k = j := by omega
            obtain rfl : true = v := by rw [← hv2.out, hm.out]
            go_wp2_with fail
            exact bodyPost_ret (v := .bool true) (by simp [results, Try.results23, go_sem]) rfl ⟨rfl, hBr⟩
    · by_cases h6 : ki = 6
      · subst h6
        obtain ⟨b5, b7⟩ : ¬ kj = 5 ∧ ¬ kj = 7 := ⟨fun e => hm ⟨Or.inl rfl, Or.inl e⟩, fun e => hm ⟨Or.inl rfl, Or.inr e⟩⟩
        have b5d : decide (kj = 5) = false := decide_eq_false b5
        have b7d : decide (kj = 7) = false := decide_eq_false b7
        have b5b : (kj == 5) = false := by simp [b5]
        have b7b : (kj == 7) = false := by simp [b7]
        obtain rfl : false = v := by rw [← hv.out]; unfold linkE oneT; simp [hc, b5, b7]
        go_wp2_with fail
        exact bodyPost_ret (v := .bool false) (by simp [results, Try.results23, go_sem]) rfl ⟨rfl, hBZ.out⟩
      have h6d : decide (ki = 6) = false := decide_eq_false h6
      by_cases h7 : ki = 7
      · subst h7
        obtain ⟨b5, b7⟩ : ¬ kj = 5 ∧ ¬ kj = 7 := ⟨fun e => hm ⟨Or.inr rfl, Or.inl e⟩, fun e => hm ⟨Or.inr rfl, Or.inr e⟩⟩
        have b5d : decide (kj = 5) = false := decide_eq_false b5
        have b7d : decide (kj = 7) = false := decide_eq_false b7
        have b5b : (kj == 5) = false := by simp [b5]
        have b7b : (kj == 7) = false := by simp [b7]
        obtain rfl : false = v := by rw [← hv.out]; unfold linkE oneT; simp [hc, b5, b7]
        go_wp2_with fail
        exact bodyPost_ret (v := .bool false) (by simp [results, Try.results23, go_sem]) rfl ⟨rfl, hBZ.out⟩
      have h7d : decide (ki = 7) = false := decide_eq_false h7
      obtain rfl : false = v := by rw [← hv.out]; unfold linkE oneT; simp [hc, h2, h4, h6, h7]
      go_wp2_with fail
      exact bodyPost_ret (v := .bool false) (by simp [results, Try.results23, go_sem]) rfl ⟨rfl, hBZ.out⟩
end Go.Proofs.Ytdgdfpgekccibab
