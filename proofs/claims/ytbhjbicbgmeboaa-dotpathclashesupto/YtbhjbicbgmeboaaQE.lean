import Derived.Test.YtbhjbicbgmeboaaQD
/-! Clash, Clashes, of both. -/
namespace Go.Proofs.Ytbhjbicbgmeboaa
open Go Go.RowKit

theorem clB_true {A B : Pth} (h : ∀ j : Nat, j < A.length → j < B.length → A[j]? = B[j]?) : clB A B = true := by
  unfold clB
  rw [decide_eq_true_eq]
  apply List.ext_getElem?
  intro j
  by_cases hj : j < min A.length B.length
  · rw [List.getElem?_take_of_lt hj, List.getElem?_take_of_lt hj]
    exact h j (by omega) (by omega)
  · rw [List.getElem?_eq_none (by simp; omega), List.getElem?_eq_none (by simp; omega)]
theorem clB_no {A B : Pth} {q : Nat} (h1 : q < A.length) (h2 : q < B.length) (h : A[q]? ≠ B[q]?) : clB A B = false := by
  unfold clB
  rw [decide_eq_false_iff_not]
  intro e
  apply h
  have := congrArg (fun l => l[q]?) e
  simp only [List.getElem?_take_of_lt (show q < min A.length B.length by omega)] at this
  exact this
theorem reads_at {w : World} {a : Option Addr} {c n : Nat} {l : List ByteArray} (h : Reads w (.slice a n c) l) {q : Nat} (hq : q < l.length) : ∃ g o, a = some ⟨g, o, none⟩ ∧ w.cell? ⟨g, o + q, none⟩ = some (.string l[q]) := by
  obtain ⟨a', c', e, hc, hA⟩ := h
  cases e
  obtain ⟨b, o, rfl, _, hA⟩ := hA.resolve_left (by intro e; subst e; simp at hq)
  exact ⟨b, o, rfl, hA q _ (List.getElem?_eq_getElem hq)⟩
set_option maxHeartbeats 2000000 in
set_option maxRecDepth 100000 in
theorem rclash2 (a : Option Addr) (c : Nat) (b : Option Addr) (d : Nat) (A B : Pth) (w : World) (hA : Hid (Reads w (.slice a A.length c) A)) (hB : Hid (Reads w (.slice b B.length d) B)) :
    Calls Try.prog 6 #[.slice a A.length c, .slice b B.length d] w fun e w' => e = .returned (.bool (clB A B)) ∧ ∃ k, w' = w.drewN k := by
  have hAl := hA.out.len
  have hBl := hB.out.len
  go_enter Try.func6, Try.ntmps6
  go_wp2_with fail
  go_loopw [5] (fun i wr => ∃ q m : Nat, q ≤ A.length ∧ i = .int .i64 q ∧ wr = w.drewN m ∧ Hid (∀ j : Nat, j < q → A[j]? = B[j]?)) (fun i _ => A.length - (intOf i).toNat)
  case atStart => exact ⟨0, 0, Nat.zero_le _, rfl, rfl, hid_of (fun j h => by omega)⟩
  case round =>
    obtain ⟨q, m, hq, rfl, rfl, hsame⟩ := hrel
    by_cases h1 : q < A.length
    · have hd1 : decide ((q : Int) < (A.length : Int)) = true := by simp; omega
      by_cases h2 : q < B.length
      · have hd2 : decide ((q : Int) < (B.length : Int)) = true := by simp; omega
        obtain ⟨g1, o1, rfl, n1⟩ := reads_at hA.out h1
        obtain ⟨g2, o2, rfl, n2⟩ := reads_at hB.out h2
        obtain ⟨x, hx⟩ : ∃ x, Hid (A[q] = x) := ⟨_, hid_of rfl⟩
        obtain ⟨y, hy⟩ : ∃ y, Hid (B[q] = y) := ⟨_, hid_of rfl⟩
        rw [hx.out] at n1
        rw [hy.out] at n2
        have i1 : (q : Int) < (A.length : Int) := by omega
        have i2 : (q : Int) < (B.length : Int) := by omega
        have i3 : (0 : Int) ≤ (q : Int) := by omega
        by_cases he : x = y
        · subst he
          have hsm : Hid (A[q]? = B[q]?) := hid_of (by rw [List.getElem?_eq_getElem h1, List.getElem?_eq_getElem h2, hx.out, hy.out])
          go_wp2_with fail
          go_quiet (fail)
          go_wp2_with fail
          go_roundw
          case rel => exact ⟨q + 1, m + nq, by omega, by simp, rfl, hid_of (fun j hj => by
            by_cases ej : j = q
            · subst ej; exact hsm.out
            · exact hsame.out j (by omega))⟩
          case measure => simp [intOf]; omega
        · have hne : (x.toList == y.toList) = false := by rw [toList_beq]; simpa using he
          have hf : Hid (clB A B = false) := hid_of (clB_no (q := q) h1 h2 (by rw [List.getElem?_eq_getElem h1, List.getElem?_eq_getElem h2, hx.out, hy.out]; simpa using he))
          go_wp2_with fail
          go_quiet (fail)
          go_wp2_with fail
          go_ret
          exact ⟨by rw [hf.out]; rfl, m + nq, World.drewN_drewN _ _ _⟩
      · have hd2 : decide ((q : Int) < (B.length : Int)) = false := by simp; omega
        have hf : Hid (clB A B = true) := hid_of (clB_true (fun j h3 h4 => hsame.out j (by omega)))
        go_wp2_with fail
        go_ret
        exact ⟨by rw [hf.out]; rfl, m, rfl⟩
    · have hd1 : decide ((q : Int) < (A.length : Int)) = false := by simp; omega
      have hf : Hid (clB A B = true) := hid_of (clB_true (fun j h3 h4 => hsame.out j (by omega)))
      go_wp2_with fail
      go_ret
      exact ⟨by rw [hf.out]; rfl, m, rfl⟩
set_option maxHeartbeats 2000000 in
set_option maxRecDepth 100000 in
theorem clash2 (g1 c1 g2 c2 : Nat) (A B : Pth) (w : World) (hA : Reads w (.slice (some ⟨g1, 0, none⟩) A.length c1) A) (hB : Reads w (.slice (some ⟨g2, 0, none⟩) B.length c2) B) (ha : A.length ≤ 1099511627776) :
    Calls Try.prog 16 #[.slice (some ⟨g1, 0, none⟩) A.length c1, .slice (some ⟨g2, 0, none⟩) B.length c2] w fun e w' => e = .returned (.bool (clB A B)) ∧ ∃ k, w' = w.drewN k := by
  have key : ∀ {g c : Nat} {A : Pth}, Reads w (.slice (some ⟨g, 0, none⟩) A.length c) A → A.length ≤ c ∧ ∀ j, j < A.length → w.cell? ⟨g, 0 + j, none⟩ = some (.string (A.getD j ByteArray.empty)) := fun {g c A} h => by
    refine ⟨?_, fun j hj => ?_⟩
    · obtain ⟨_, _, e, hc, _⟩ := h
      cases e; exact hc.1
    · obtain ⟨g', o', e, hcell⟩ := reads_at h hj
      cases e
      rw [hcell]; simp [List.getD, List.getElem?_eq_getElem hj]
  obtain ⟨l1, k1⟩ := key hA
  obtain ⟨l2, k2⟩ := key hB
  obtain ⟨q, hq⟩ : ∃ q, Hid (min A.length B.length = q) := ⟨_, hid_of rfl⟩
  have hqi : min (A.length : Int) (B.length : Int) = (q : Int) := by have := hq.out; omega
  have hqa : q ≤ A.length := by have := hq.out; omega
  have hqb : q ≤ B.length := by have := hq.out; omega
  have heq := hid_of (fun v => Try.slices_Equal_string g1 0 q c1 g2 0 q c2 A B (w.drewN v) hqa hqb (by omega) (by omega) k1 k2)
  have hqc : q ≤ c1 := by omega
  have hqd : q ≤ c2 := by omega
  have hres : Hid (clB A B = decide (A.take q = B.take q)) := hid_of (by unfold clB; rw [hq.out])
  clear k1 k2 key hA hB
  go_enter Try.func16, Try.ntmps16
  go_wp2_with fail
  go_quiet ((go_at_call 29; exact Calls.quiet_of (heq.out _)))
  go_wp2_with fail
  go_ret
  exact ⟨by rw [hres.out]; rfl, nq, rfl⟩
/-- A list of paths in memory. -/
def ReadsL (w : World) (v : Value) (ls : List Pth) : Prop :=
  ∃ a c, v = .slice a ls.length c ∧ ls.length ≤ c ∧ ∀ j l, ls[j]? = some l → ∃ b o a' c', a = some ⟨b, o, none⟩ ∧ b < w.heap.size ∧ w.cell? ⟨b, o + j, none⟩ = some (.slice a' l.length c') ∧ Reads w (.slice a' l.length c') l
theorem ReadsL.at {w : World} {a : Option Addr} {c : Nat} {ls : List Pth} (h : ReadsL w (.slice a ls.length c) ls) {q : Nat} (hq : q < ls.length) : ∃ b o a' c', a = some ⟨b, o, none⟩ ∧ b < w.heap.size ∧ w.cell? ⟨b, o + q, none⟩ = some (.slice a' (ls.getD q []).length c') ∧ Reads w (.slice a' (ls.getD q []).length c') (ls.getD q []) := by
  obtain ⟨a1, c1, e, _, h⟩ := h
  cases e
  have := h q _ (List.getElem?_eq_getElem hq)
  rwa [show ls.getD q [] = ls[q] by simp [List.getD, List.getElem?_eq_getElem hq]]
/-- What Clashes answers. -/
def CPost (ls : List Pth) (R : World → Prop) (e : Ending) (w' : World) : Prop := ∃ (n : Nat) (ok : Bool), e = .returned (.tuple #[.int .i64 n, .bool ok]) ∧ Found ls n ok ∧ R w'
set_option maxHeartbeats 2000000 in
set_option maxRecDepth 100000 in
theorem rclashes_any (a : Option Addr) (c : Nat) (ls : List Pth) (w : World) (hR : Hid (ReadsL w (.slice a ls.length c) ls)) (hl : ls.length ≤ 1000) :
    Calls Try.prog 15 #[.slice a ls.length c] w (CPost ls fun w' => ∃ k, w' = w.drewN k) := by
  go_enter Try.func15, Try.ntmps15
  go_wp2_with fail
  go_loopw [4] (fun i wr => ∃ q m : Nat, q ≤ ls.length ∧ i = .int .i64 q ∧ wr = w.drewN m ∧ Hid (∀ x, x < q → ∀ k, k < x → ¬ clP (ls.getD x []) (ls.getD k []))) (fun i _ => ls.length - (intOf i).toNat)
  case atStart => exact ⟨0, 0, Nat.zero_le _, rfl, rfl, hid_of (fun j h => by omega)⟩
  case round =>
    obtain ⟨q, m, hq, rfl, rfl, hno⟩ := hrel
    by_cases h1 : q < ls.length
    · have hd1 : decide ((q : Int) < (ls.length : Int)) = true := by simp; omega
      go_wp2_with fail
      go_loopw [5] (fun i wr => ∃ x : Nat, x ≤ q ∧ i = .int .i64 x ∧ Hid (∃ m, wr = w.drewN m) ∧ Hid (∀ k, k < x → ¬ clP (ls.getD q []) (ls.getD k []))) (fun i _ => q - (intOf i).toNat)
      case atStart => exact ⟨0, Nat.zero_le _, rfl, hid_of ⟨m, rfl⟩, hid_of (fun j h => by omega)⟩
      case round =>
        obtain ⟨x, hx, rfl, hwr, hno2⟩ := hrel
        by_cases h2 : x < q
        · have hd2 : decide ((x : Int) < (q : Int)) = true := by simp; omega
          obtain ⟨b, o, a1, c1, e1, hb1, n1, r1⟩ := hR.out.at h1
          obtain ⟨b', o', a2, c2, e2, hb2, n2, r2⟩ := hR.out.at (q := x) (by omega)
          subst e1
          cases e2
          obtain ⟨A, hA⟩ : ∃ A, Hid (ls.getD q [] = A) := ⟨_, hid_of rfl⟩
          obtain ⟨B, hB⟩ : ∃ B, Hid (ls.getD x [] = B) := ⟨_, hid_of rfl⟩
          rw [hA.out] at n1 r1
          rw [hB.out] at n2 r2
          replace n1 : wr.cell? ⟨b, o + q, none⟩ = some (.slice a1 A.length c1) := by obtain ⟨m3, e3⟩ := hwr.out; rw [e3]; exact n1
          replace n2 : wr.cell? ⟨b, o + x, none⟩ = some (.slice a2 B.length c2) := by obtain ⟨m3, e3⟩ := hwr.out; rw [e3]; exact n2
          have hcl := hid_of (fun v => rclash2 a1 c1 a2 c2 A B (wr.drewN v) (hid_of (by obtain ⟨m3, e3⟩ := hwr.out; rw [e3]; exact r1)) (hid_of (by obtain ⟨m3, e3⟩ := hwr.out; rw [e3]; exact r2)))
          have i1 : (q : Int) < (ls.length : Int) := by omega
          have i2 : (x : Int) < (ls.length : Int) := by omega
          have i3 : (0 : Int) ≤ (q : Int) := by omega
          have i4 : (0 : Int) ≤ (x : Int) := by omega
          clear r1 r2 hb1 hb2
          by_cases he : clB A B = true
          · rw [he] at hcl
            have hfound : Hid (Found ls q true) := .inl ⟨rfl, h1, ⟨x, h2, by rw [hA.out, hB.out]; exact clB_iff.1 he⟩, hno.out⟩
            go_wp2_with fail
            go_quiet ((go_at_call 6; exact Calls.quiet_of (hcl.out _)))
            go_wp2_with fail
            go_ret2
            exact ⟨q, true, rfl, hfound.out, by obtain ⟨m3, e3⟩ := hwr.out; rw [e3]; exact ⟨m3 + nq, World.drewN_drewN _ _ _⟩⟩
          · have he' : clB A B = false := by simpa using he
            rw [he'] at hcl
            have hnc : Hid (¬ clP (ls.getD q []) (ls.getD x [])) := by rw [hA.out, hB.out]; exact clB_false he'
            clear he he'
            go_wp2_with fail
            go_quiet ((go_at_call 6; exact Calls.quiet_of (hcl.out _)))
            go_wp2_with fail
            go_roundw
            case rel => exact ⟨x + 1, by omega, by simp, hid_of (by obtain ⟨m3, e3⟩ := hwr.out; rw [e3]; exact ⟨m3 + nq, World.drewN_drewN _ _ _⟩), hid_of (fun j hj => by
              by_cases ej : j = x
              · subst ej; exact hnc.out
              · exact hno2.out j (by omega))⟩
            case measure => simp [intOf]; omega
        · have hd2 : decide ((x : Int) < (q : Int)) = false := by simp; omega
          obtain ⟨m2, em2⟩ := hwr.out
          subst em2
          go_wp2_with fail
          go_roundw
          case rel => exact ⟨q + 1, m2, by omega, by simp, rfl, hid_of (fun j hj k hk => by
            by_cases ej : j = q
            · subst ej; exact hno2.out k (by omega)
            · exact hno.out j (by omega) k hk)⟩
          case measure => simp [intOf]; omega
    · have hd1 : decide ((q : Int) < (ls.length : Int)) = false := by simp; omega
      have hfound : Hid (Found ls 0 false) := .inr ⟨rfl, rfl, fun x hx k hk => hno.out x (by omega) k hk⟩
      go_wp2_with fail
      go_ret2
      exact ⟨0, false, rfl, hfound.out, m, rfl⟩
/-- All segments. -/
def total (ls : List Pth) : Nat := (ls.map List.length).sum
theorem total_take (ls : List Pth) (q : Nat) (hq : q < ls.length) : total (ls.take (q + 1)) = total (ls.take q) + (ls.getD q []).length := by
  unfold total
  rw [List.take_add_one, List.getElem?_eq_getElem hq, List.map_append, List.sum_append]
  simp [List.getD, List.getElem?_eq_getElem hq]
theorem total_le (ls : List Pth) (q : Nat) : total (ls.take q) ≤ total ls := by
  have h : total ls = total (ls.take q) + total (ls.drop q) := by
    unfold total
    rw [← List.sum_append, ← List.map_append, List.take_append_drop]
  omega
theorem take_rev (ls : List Pth) (q : Nat) (hq : q < ls.length) : (ls.take (q + 1)).reverse = ls.getD q [] :: (ls.take q).reverse := by
  rw [List.take_add_one, List.getElem?_eq_getElem hq]
  simp [List.getD, List.getElem?_eq_getElem hq]
theorem mem_take_rev {ls : List Pth} {q : Nat} {z : Pth} (h : z ∈ (ls.take q).reverse) : ∃ k, k < q ∧ z = ls.getD k [] := by
  rw [List.mem_reverse] at h
  obtain ⟨k, hk⟩ := List.mem_iff_getElem?.1 h
  have hl := (List.getElem?_eq_some_iff.1 hk).1
  simp at hl
  have hl1 : k < q := by omega
  refine ⟨k, hl1, ?_⟩
  rw [List.getElem?_take_of_lt hl1] at hk
  simp [List.getD, hk]
theorem take_rev_mem {ls : List Pth} {q k : Nat} (hk : k < q) (hq : q ≤ ls.length) : ls.getD k [] ∈ (ls.take q).reverse := by
  rw [List.mem_reverse]
  refine List.mem_iff_getElem?.2 ⟨k, ?_⟩
  rw [List.getElem?_take_of_lt hk, List.getElem?_eq_getElem (by omega)]
  simp [List.getD, List.getElem?_eq_getElem (show k < ls.length by omega)]
theorem Reads.low {w w' : World} {v : Value} {l : Pth} (h : Reads w v l) (hb : Below w.heap.size w w') : Reads w' v l := h.keep hb
set_option maxHeartbeats 2000000 in
set_option maxRecDepth 100000 in
theorem clashes_any (a : Option Addr) (c : Nat) (ls : List Pth) (w : World) (hR : Hid (ReadsL w (.slice a ls.length c) ls)) (hl : ls.length ≤ 1000) (hZ : Hid (∀ l ∈ ls, ∀ x ∈ l, x.size ≤ maxLen)) (hn : Hid (1 + total ls ≤ 1099511627776)) :
    Calls Try.prog 14 #[.slice a ls.length c] w (CPost ls fun w' => Below w.heap.size w w') := by
  go_enter Try.func14, Try.ntmps14
  go_wp2_with fail
  refine (new_tree w).mono ?_
  rintro e w1 ⟨tb, mb, nb, cap, D, rfl, hT, hB⟩
  have hst : Hid (LaidAt w w.heap.size tb mb 1 [] w1) := ⟨nb, cap, D, _, _, hT, inv_init, Nat.le_refl _, hB⟩
  clear hT hB
  go_wp2_with fail
  go_loopw [10] (fun i wr => ∃ q : Nat, q ≤ ls.length ∧ i = .int .i64 q ∧ Hid (LaidAt w w.heap.size tb mb (1 + total (ls.take q)) (ls.take q).reverse wr) ∧ Hid (∀ x, x < q → ∀ k, k < x → ¬ clP (ls.getD x []) (ls.getD k []))) (fun i _ => ls.length - (intOf i).toNat)
  case atStart => exact ⟨0, Nat.zero_le _, rfl, hst, hid_of (fun j h => by omega)⟩
  case round =>
    clear hst
    obtain ⟨q, hq, rfl, hA, hno⟩ := hrel
    have hlow : Hid (Below w.heap.size w wr) := by obtain ⟨_, _, _, _, _, _, _, _, h⟩ := hA.out; exact h
    by_cases h1 : q < ls.length
    · have hd1 : decide ((q : Int) < (ls.length : Int)) = true := by simp; omega
      obtain ⟨b, o, a1, c1, e1, hb1, n1, r1⟩ := hR.out.at h1
      subst e1
      have hmem : ls.getD q [] ∈ ls := by simp [List.getD, List.getElem?_eq_getElem h1]
      have htl := total_le ls (q + 1)
      rw [total_take ls q h1] at htl
      have hlay := hid_of (lay_any w.heap.size tb mb (1 + total (ls.take q)) (ls.take q).reverse (ls.getD q []) (.slice a1 (ls.getD q []).length c1) wr w (Nat.le_refl _) hA.out (fun w' hb => r1.keep hb) (hZ.out _ hmem) (by have := hn.out; omega))
      have n1' : wr.cell? ⟨b, o + q, none⟩ = some (.slice a1 (ls.getD q []).length c1) := (hlow.out.cell (p := ⟨b, o + q, none⟩) hb1).trans n1
      obtain ⟨A, hAe⟩ : ∃ A, Hid (ls.getD q [] = A) := ⟨_, hid_of rfl⟩
      obtain ⟨T, hTe⟩ : ∃ T, Hid (1 + total (ls.take q) = T) := ⟨_, hid_of rfl⟩
      obtain ⟨LL, hLe⟩ : ∃ LL, Hid ((ls.take q).reverse = LL) := ⟨_, hid_of rfl⟩
      rw [hAe.out] at n1' hlay
      rw [hTe.out, hLe.out] at hlay
      clear n1 r1 hb1 hmem htl
      go_wp2_with (go_at_call 28; refine hlay.out.mono ?_; rintro r w5 ⟨ok, rfl, hb5, h5, h6⟩; replace hb5 := hid_of hb5; replace h5 := hid_of h5; replace h6 := hid_of h6; rcases Bool.eq_false_or_eq_true ok with hok | hok)
      · subst hok
        obtain ⟨g1, g2⟩ := h6.out rfl
        rw [← hAe.out, ← hLe.out] at g1
        rw [← hAe.out, ← hTe.out, ← hLe.out, Nat.add_assoc, ← total_take ls q h1, ← take_rev ls q h1] at g2
        go_roundw
        case rel => exact ⟨q + 1, by omega, by simp, hid_of g2, hid_of (fun j hj k hk => by
          by_cases ej : j = q
          · subst ej; exact g1 _ (take_rev_mem hk (by omega))
          · exact hno.out j (by omega) k hk)⟩
        case measure => simp [intOf]; omega
      · subst hok
        obtain ⟨z, hz, hz2⟩ := h5.out rfl
        rw [← hLe.out] at hz
        obtain ⟨k, hk, rfl⟩ := mem_take_rev hz
        rw [← hAe.out] at hz2
        go_ret2
        exact ⟨q, true, rfl, .inl ⟨rfl, h1, ⟨k, hk, hz2⟩, hno.out⟩, hb5.out⟩
    · have hd1 : decide ((q : Int) < (ls.length : Int)) = false := by simp; omega
      have hfound : Hid (Found ls 0 false) := .inr ⟨rfl, rfl, fun x hx k hk => hno.out x (by omega) k hk⟩
      go_wp2_with fail
      go_ret2
      exact ⟨0, false, rfl, hfound.out, hlow.out⟩
end Go.Proofs.Ytbhjbicbgmeboaa
