import Derived.Test.YtdgdfpgekccibaaCV
import Derived.Test.YtdgdfpgekccibaaOW
/-! clocks: the document's Check, one, Sees. -/
namespace Go.Proofs.Ytdgdfpgekccibaa
open Go Go.RowKit
set_option maxHeartbeats 2000000 in
set_option maxRecDepth 100000 in
theorem refcheck_any (a : Option Addr) (cap : Nat) (l : List Ev) (clients : Int) (w : World) (hE : EvsAt w a l) (hl : l.length ≤ 9223372036854775807) :
    Calls Try.prog 28 #[.slice a l.length cap, .int .i64 clients] w fun e w' => e = .returned (.int .i64 (chk l clients)) ∧ w' = w := by
  by_cases h1 : clients < 0
  · have e1 : chk l clients = 2 := by unfold chk; rw [if_pos (.inl h1)]
    rw [e1]
    go_enter Try.func28, Try.ntmps28
    go_wp2
    go_ret
    exact ⟨rfl, rfl⟩
  by_cases h2 : 16 < clients
  · have e1 : chk l clients = 2 := by unfold chk; rw [if_pos (.inr h2)]
    rw [e1]
    go_enter Try.func28, Try.ntmps28
    go_wp2
    go_ret
    exact ⟨rfl, rfl⟩
  by_cases h3 : 1048576 < l.length
  · have e1 : chk l clients = 1 := by unfold chk; rw [if_neg (by omega), if_pos h3]
    rw [e1]
    go_enter Try.func28, Try.ntmps28
    go_wp2
    go_ret
    exact ⟨rfl, rfl⟩
  obtain ⟨v, hv⟩ : ∃ v, Hid (chk l clients = v) := ⟨_, rfl⟩
  rw [hv.out]
  go_enter Try.func28, Try.ntmps28
  go_wp2
  go_loopw [5] (fun i wr => ∃ k : Nat, k ≤ l.length ∧ i = .int .i64 k ∧ (∀ j e, j < k → l[j]? = some e → okEv clients e = true) ∧ w = wr) (fun i _ => l.length - (intOf i).toNat)
  case atStart => exact ⟨0, by omega, rfl, fun j e hj => by omega, rfl⟩
  case round =>
    obtain ⟨k, hk, rfl, hok, rfl⟩ := hrel
    by_cases hlt : k < l.length
    · obtain ⟨ev, hev⟩ : ∃ ev, Hid (l[k]? = some ev) := ⟨l[k], List.getElem?_eq_getElem hlt⟩
      obtain ⟨b, o, rfl, hb, y0, y1, y2, y3⟩ := hE k ev hev.out
      obtain ⟨c0, k0, o0, n0⟩ := ev
      simp only at y0 y1 y2 y3
      replace hok := hid_of hok
      replace hE := hid_of hE
      by_cases d1 : c0 < 0
      · have hno := hid_of (chk_no clients (by omega) (by omega) (by omega) hev.out (by unfold okEv; simp; omega))
        go_wp2_with fail
        go_ret
        exact ⟨ret_int (by rw [← hv.out, hno.out]), rfl⟩
      by_cases d2 : clients ≤ c0
      · have hno := hid_of (chk_no clients (by omega) (by omega) (by omega) hev.out (by unfold okEv; simp; omega))
        go_wp2_with fail
        go_ret
        exact ⟨ret_int (by rw [← hv.out, hno.out]), rfl⟩
      by_cases d3 : k0 < 1
      · have hno := hid_of (chk_no clients (by omega) (by omega) (by omega) hev.out (by unfold okEv; simp; omega))
        go_wp2_with fail
        go_ret
        exact ⟨ret_int (by rw [← hv.out, hno.out]), rfl⟩
      by_cases d4 : 11 < k0
      · have hno := hid_of (chk_no clients (by omega) (by omega) (by omega) hev.out (by unfold okEv; simp; omega))
        go_wp2_with fail
        go_ret
        exact ⟨ret_int (by rw [← hv.out, hno.out]), rfl⟩
      have hyes : Hid (okEv clients ⟨c0, k0, o0, n0⟩ = true) := by unfold Hid okEv; simp; omega
      go_wp2_with fail
      go_roundw
      case rel => exact ⟨k + 1, by omega, by go_num, fun j e hj he => by
        by_cases ej : j = k
        · subst ej
          rw [hev.out] at he
          cases he
          exact hyes.out
        · exact hok.out j e (by omega) he, trivial⟩
      case measure => simp [intOf]; omega
    · have e1 : chk l clients = 0 := by
        unfold chk
        rw [if_neg (by omega), if_neg (by omega), if_pos]
        rw [List.all_eq_true]
        intro e he
        obtain ⟨j, hj, rfl⟩ := List.getElem_of_mem he
        exact hok j _ (by omega) (List.getElem?_eq_getElem hj)
      replace e1 := hid_of e1
      go_wp2_with fail
      go_ret
      exact ⟨ret_int (by rw [← hv.out, e1.out]), rfl⟩
set_option maxHeartbeats 1000000 in
set_option maxRecDepth 100000 in
theorem refone_any (k1 o1 n1 k2 o2 n2 : Int) (w : World) : Calls Try.prog 29 #[.agg #[.int .i64 k1, .int .i64 o1, .int .i64 n1], .agg #[.int .i64 k2, .int .i64 o2, .int .i64 n2]] w fun e w' => e = .returned (.bool (decide (o1 = o2) && decide (n1 = n2))) ∧ Below w.heap.size w w' := by
  have hB : Hid (Below w.heap.size w ((w.alloc (.cells #[.int .i64 k1, .int .i64 o1, .int .i64 n1] 28)).alloc (.cells #[.int .i64 k2, .int .i64 o2, .int .i64 n2] 28))) := ((Below.refl _ w).alloc (Nat.le_refl _) _).alloc (by simp) _
  by_cases h1 : o1 = o2
  · by_cases h2 : n1 = n2
    · subst h1 h2
      go_enter Try.func29, Try.ntmps29
      go_wp2
      exact bodyPost_ret (v := .bool true) (by simp [results, Try.results29, go_sem]) rfl ⟨by simp, hB.out⟩
    · subst h1
      have hd : decide (n1 = n2) = false := decide_eq_false h2
      go_enter Try.func29, Try.ntmps29
      go_wp2
      exact bodyPost_ret (v := .bool false) (by simp [results, Try.results29, go_sem, h2]) rfl ⟨by rw [hd]; simp, hB.out⟩
  · have hd : decide (o1 = o2) = false := decide_eq_false h1
    go_enter Try.func29, Try.ntmps29
    go_wp2
    exact bodyPost_ret (v := .bool false) (by simp [results, Try.results29, go_sem]) rfl ⟨by rw [hd]; simp, hB.out⟩
set_option maxHeartbeats 2000000 in
set_option maxRecDepth 100000 in
theorem refsees_any (a : Option Addr) (cap : Nat) (evs : List Ev) (clients j : Int) (w : World) (hE : EvsAt w a evs) (hcap : evs.length ≤ cap) (hcm : cap ≤ 9223372036854775807) :
    Calls Try.prog 18 #[.slice a evs.length cap, .int .i64 clients, .int .i64 j] w fun e w' => e = .returned (seenV (seesO evs clients j)) ∧ Below w.heap.size w w' := by
  have hck := hid_of (refcheck_any a cap evs clients w hE (by omega))
  obtain ⟨v, hv⟩ : ∃ v, Hid (seesO evs clients j = v) := ⟨_, rfl⟩
  rw [hv.out]
  go_enter Try.func18, Try.ntmps18
  go_wp2_with fail
  refine hck.out.mono ?_
  rintro e W1 ⟨rfl, hW1⟩
  obtain rfl : w = W1 := hW1.symm
  clear hck hW1
  by_cases h0 : chk evs clients = 0
  · rw [h0]
    by_cases h1 : j < 0
    · obtain rfl : none = v := by rw [← hv.out]; unfold seesO; simp [h1]
      go_wp2_with fail
      exact bodyPost_ret (v := .tuple #[.int .i64 0, .bool false]) (by simp [results, Try.results18, go_sem]) rfl ⟨rfl, Below.refl _ w⟩
    by_cases h2 : (evs.length : Int) ≤ j
    · obtain rfl : none = v := by rw [← hv.out]; unfold seesO; simp [h2]
      go_wp2_with fail
      exact bodyPost_ret (v := .tuple #[.int .i64 0, .bool false]) (by simp [results, Try.results18, go_sem]) rfl ⟨rfl, Below.refl _ w⟩
    obtain ⟨j, rfl⟩ := Int.eq_ofNat_of_zero_le (a := j) (by omega)
    obtain ⟨ev, hev⟩ : ∃ ev, Hid (evs[j]? = some ev) := ⟨evs[j]'(by omega), List.getElem?_eq_getElem (by omega)⟩
    obtain ⟨b, o, rfl, hb, x0, x1, x2, x3⟩ := hE j _ hev.out
    obtain ⟨c0, k0, o0, n0⟩ := ev
    simp only at x0 x1 x2 x3
    by_cases hk8 : k0 = 8
    · subst hk8
      have hv2 : Hid (lastSet evs o0 n0 j = v) := by
        rw [← hv.out]
        unfold Hid seesO
        rw [if_neg (by omega), Int.toNat_natCast, hev.out]
        simp
      have hjlt : j < evs.length := by omega
      have hd1 : decide ((j : Int) < 0) = false := decide_eq_false (by omega)
      have hd2 : decide (evs.length ≤ j) = false := decide_eq_false (by omega)
      have hd3 : ¬ evs.length ≤ j := by omega
      have hof := hid_of (fun k1 o1 n1 k2 o2 n2 w => refone_any k1 o1 n1 k2 o2 n2 w)
      clear hv
      replace hE := hid_of hE
      go_wp2_with fail
      go_loopw [8] (fun i wr => ∃ m : Nat, i = .int .i64 ((m : Int) - 1) ∧ m ≤ j ∧ Hid (lastSet evs o0 n0 m = v) ∧ Below w.heap.size w wr) (fun i _ => (intOf i + 1).toNat)
      case atStart => exact ⟨j, rfl, Nat.le_refl _, hv2, Below.refl _ w⟩
      case round =>
        obtain ⟨m, rfl, hmj, hm, hBr⟩ := hrel
        rcases m with _ | m
        · obtain rfl : none = v := by rw [← hm.out]; rfl
          go_wp2_with fail
          exact bodyPost_ret (v := .tuple #[.int .i64 0, .bool false]) (by simp [results, Try.results18, go_sem]) rfl ⟨rfl, hBr⟩
        · obtain ⟨em, hem⟩ : ∃ em, Hid (evs[m]? = some em) := ⟨evs[m]'(by omega), List.getElem?_eq_getElem (by omega)⟩
          obtain ⟨b', o', hbo, hb1, y0, y1, y2, y3⟩ := (hE.out.keep hBr) m _ hem.out
          cases hbo
          obtain ⟨c1, k1, o1, n1⟩ := em
          simp only at y0 y1 y2 y3
          have hmi : (((m + 1 : Nat) : Int) - 1) = (m : Int) := by omega
          rw [hmi]
          have z1 := stay hBr x1
          have z2 := stay hBr x2
          have z3 := stay hBr x3
          have hmlt : m < evs.length := by omega
          have hst : Hid (lastSet evs o0 n0 (m + 1) = if setOf ⟨c1, k1, o1, n1⟩ o0 n0 then some m else lastSet evs o0 n0 m) := by unfold Hid; simp only [lastSet, hem.out]
          clear x0 x1 x2 x3
          by_cases hk9 : k1 = 9
          · subst hk9
            obtain ⟨t, ht⟩ : ∃ t, Hid ((decide (o1 = o0) && decide (n1 = n0)) = t) := ⟨_, rfl⟩
            have hon := hid_of (fun w => hof.out 9 o1 n1 8 o0 n0 w)
            rw [ht.out] at hon
            replace hBr := hid_of hBr
            go_wp2_with fail
            go_region_held3 (fun w' => w'.cell? ⟨b, o + m * 4 + 1, none⟩ = some (.int .i64 9) ∧ w'.cell? ⟨b, o + m * 4 + 2, none⟩ = some (.int .i64 o1) ∧ w'.cell? ⟨b, o + m * 4 + 3, none⟩ = some (.int .i64 n1) ∧ w'.cell? ⟨b, o + j * 4 + 1, none⟩ = some (.int .i64 8) ∧ w'.cell? ⟨b, o + j * 4 + 2, none⟩ = some (.int .i64 o0) ∧ w'.cell? ⟨b, o + j * 4 + 3, none⟩ = some (.int .i64 n0)) (go_keep) (first
              | (refine (hon.out wr.drew).mono ?_; rintro e Z1 ⟨rfl, hz1⟩; have t0 : Z1.cell? ⟨b, o + m * 4 + 1, none⟩ = some (.int .i64 9) := stay hz1 y1; have t1 : Z1.cell? ⟨b, o + m * 4 + 2, none⟩ = some (.int .i64 o1) := stay hz1 y2; have t2 : Z1.cell? ⟨b, o + m * 4 + 3, none⟩ = some (.int .i64 n1) := stay hz1 y3; have t3 : Z1.cell? ⟨b, o + j * 4 + 1, none⟩ = some (.int .i64 8) := stay hz1 z1; have t4 : Z1.cell? ⟨b, o + j * 4 + 2, none⟩ = some (.int .i64 o0) := stay hz1 z2; have t5 : Z1.cell? ⟨b, o + j * 4 + 3, none⟩ = some (.int .i64 n0) := stay hz1 z3; replace hz1 := hid_of hz1))
            clear t0 t1 t2 t3 t4 t5
            have hBz : Hid (Below w.heap.size w Z1) := (below_drew hBr.out).trans (hz1.out.mono hBr.out.size)
            cases t with
            | true =>
              obtain rfl : some m = v := by rw [← hm.out, hst.out]; unfold setOf; simp only [ht.out]; simp
              go_wp2_with fail
              exact bodyPost_ret (v := .tuple #[.int .i64 (m : Nat), .bool true]) (by simp [results, Try.results18, go_sem]) rfl ⟨rfl, hBz.out⟩
            | false =>
              go_wp2_with fail
              go_roundw
              case rel => exact ⟨m, rfl, by omega, by unfold Hid; rw [← hm.out, hst.out]; unfold setOf; simp only [ht.out]; simp, hBz.out⟩
              case measure =>
                simp only [intOf]
                omega
          · have hd9 : decide (k1 = 9) = false := decide_eq_false hk9
            go_wp2_with fail
            go_quiet (fail)
            go_wp2_with fail
            go_roundw
            case rel => exact ⟨m, rfl, by omega, by unfold Hid; rw [← hm.out, hst.out]; unfold setOf; simp [hk9], ⟨hBr.os, hBr.tape, hBr.output, hBr.size, hBr.block⟩⟩
            case measure =>
              simp only [intOf]
              omega
    · obtain rfl : none = v := by
        rw [← hv.out]
        unfold seesO
        rw [if_neg (by omega), Int.toNat_natCast, hev.out]
        simp [hk8]
      have hne8 : (k0 != 8) = true := by simp [hk8]
      go_wp2_with fail
      exact bodyPost_ret (v := .tuple #[.int .i64 0, .bool false]) (by simp [results, Try.results18, go_sem]) rfl ⟨rfl, Below.refl _ w⟩
  · obtain rfl : none = v := by rw [← hv.out]; unfold seesO; rw [if_pos (by right; right; exact h0)]
    have hne : (chk evs clients != 0) = true := by simp [h0]
    go_wp2_with fail
    exact bodyPost_ret (v := .tuple #[.int .i64 0, .bool false]) (by simp [results, Try.results18, go_sem]) rfl ⟨rfl, Below.refl _ w⟩
end Go.Proofs.Ytdgdfpgekccibaa
