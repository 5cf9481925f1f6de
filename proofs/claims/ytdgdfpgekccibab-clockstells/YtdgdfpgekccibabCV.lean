import Derived.Test.YtdgdfpgekccibabCM
import Derived.Deep.RegionHeld3
import Derived.BigQuiet
/-! clocks: Sees. -/
namespace Go.Proofs.Ytdgdfpgekccibab
open Go Go.RowKit
/-- Is event i, ahead of a read of thing (o n), a write of it? -/
def setOf (e : Ev) (o n : Int) : Bool := decide (e.k = 9) && (decide (e.o = o) && decide (e.n = n))
/-- The last one below i that is. -/
def lastSet (evs : List Ev) (o n : Int) : Nat → Option Nat
  | 0 => none
  | i + 1 => match evs[i]? with
    | some e => if setOf e o n then some i else lastSet evs o n i
    | none => lastSet evs o n i
def seenV : Option Nat → Value
  | none => .tuple #[.int .i64 0, .bool false]
  | some i => .tuple #[.int .i64 (i : Nat), .bool true]
/-- What the read j sees. -/
def seesO (evs : List Ev) (clients j : Int) : Option Nat := if j < 0 ∨ (evs.length : Int) ≤ j ∨ chk evs clients ≠ 0 then none else match evs[j.toNat]? with
  | some e => if e.k = 8 then lastSet evs e.o e.n j.toNat else none
  | none => none
theorem eq_thing (a b c d : Int) (w : World) : (binOp .eql 90 (.agg #[.int .i64 a, .int .i64 b]) (.agg #[.int .i64 c, .int .i64 d])).run Try.prog w = .ok (.bool (decide (a = c) && decide (b = d))) w := by
  go_simp
  by_cases h1 : a = c <;> by_cases h2 : b = d <;> simp [h1, h2]
set_option maxHeartbeats 2000000 in
set_option maxRecDepth 100000 in
theorem sees_any (a : Option Addr) (cap : Nat) (evs : List Ev) (clients j : Int) (w : World) (hE : EvsAt w a evs) (hcap : evs.length ≤ cap) (hcm : cap ≤ 9223372036854775807) :
    Calls Try.prog 22 #[.slice a evs.length cap, .int .i64 clients, .int .i64 j] w fun e w' => e = .returned (seenV (seesO evs clients j)) ∧ Below w.heap.size w w' := by
  have hck := hid_of (check_any a cap evs clients w hE (by omega))
  obtain ⟨v, hv⟩ : ∃ v, Hid (seesO evs clients j = v) := ⟨_, rfl⟩
  rw [hv.out]
  by_cases h1 : j < 0
  · obtain rfl : none = v := by rw [← hv.out]; unfold seesO; simp [h1]
    go_enter Try.func22, Try.ntmps22
    go_wp2_with fail
    exact bodyPost_ret (v := .tuple #[.int .i64 0, .bool false]) (by simp [results, Try.results22, go_sem]) rfl ⟨rfl, Below.refl _ w⟩
  by_cases h2 : (evs.length : Int) ≤ j
  · obtain rfl : none = v := by rw [← hv.out]; unfold seesO; simp [h2]
    go_enter Try.func22, Try.ntmps22
    go_wp2_with fail
    exact bodyPost_ret (v := .tuple #[.int .i64 0, .bool false]) (by simp [results, Try.results22, go_sem]) rfl ⟨rfl, Below.refl _ w⟩
  obtain ⟨j, rfl⟩ := Int.eq_ofNat_of_zero_le (a := j) (by omega)
  obtain ⟨ev, hev⟩ : ∃ ev, Hid (evs[j]? = some ev) := ⟨evs[j]'(by omega), List.getElem?_eq_getElem (by omega)⟩
  obtain ⟨b, o, rfl, hb, -⟩ := hE j _ hev.out
  go_enter Try.func22, Try.ntmps22
  go_wp2_with fail
  refine hck.out.mono ?_
  rintro e W1 ⟨rfl, hB1⟩
  clear hck
  by_cases h0 : chk evs clients = 0
  · rw [h0]
    have hE1 := hE.keep hB1
    obtain ⟨b', o', hbo, hb1, y0, y1, y2, y3⟩ := hE1 j _ hev.out
    cases hbo
    obtain ⟨c0, k0, o0, n0⟩ := ev
    simp only at y0 y1 y2 y3
    obtain ⟨X1, hX1⟩ : ∃ X1, Hid (W1.alloc (.cells #[.int .i64 k0, .int .i64 o0, .int .i64 n0] 55) = X1) := ⟨_, rfl⟩
    have hB2 : Below W1.heap.size W1 X1 := by rw [← hX1.out]; exact (Below.refl _ W1).alloc (Nat.le_refl _) _
    have x1 : X1.heap[W1.heap.size]? = some (.cells #[.int .i64 k0, .int .i64 o0, .int .i64 n0] 55 (0, 0)) := by rw [← hX1.out]; exact heap_alloc_new W1 _
    have hB02 : Hid (Below w.heap.size w X1) := hB1.trans (hB2.mono hB1.size)
    have hwl := hB1.size
    obtain ⟨p0, p1, p2⟩ := cells3 x1
    by_cases hk8 : k0 = 8
    · subst hk8
      have hv2 : Hid (lastSet evs o0 n0 j = v) := by
        rw [← hv.out]
        unfold Hid seesO
        rw [if_neg (by omega), Int.toNat_natCast, hev.out]
        simp
      have hjlt : j < evs.length := by omega
      have hz : Hid (∀ wr, Below X1.heap.size X1 wr → EvsAt wr (some ⟨b, o, none⟩) evs) := fun wr h => hE.keep (hB02.out.trans (h.mono hB02.out.size))
      have hof := hid_of (fun a b w k => of_agg (a := a) (b := b) w k)
      clear hv hev hE1
      replace hE := hid_of hE
      go_wp2_with (rw [hX1.out])
      clear hX1 y0 y1 y2 y3 p0 p1 p2
      go_loopw [9] (fun i wr => ∃ m : Nat, i = .int .i64 ((m : Int) - 1) ∧ m ≤ j ∧ Hid (lastSet evs o0 n0 m = v) ∧ Below X1.heap.size X1 wr) (fun i _ => (intOf i + 1).toNat)
      case atStart => exact ⟨j, rfl, Nat.le_refl _, hv2, Below.refl _ X1⟩
      case round =>
        obtain ⟨m, rfl, hmj, hm, hBr⟩ := hrel
        rcases m with _ | m
        · obtain rfl : none = v := by rw [← hm.out]; rfl
          go_wp2_with fail
          exact bodyPost_ret (v := .tuple #[.int .i64 0, .bool false]) (by simp [results, Try.results22, go_sem]) rfl ⟨rfl, hB02.out.trans (hBr.mono hB02.out.size)⟩
        · obtain ⟨em, hem⟩ : ∃ em, Hid (evs[m]? = some em) := ⟨evs[m]'(by omega), List.getElem?_eq_getElem (by omega)⟩
          obtain ⟨b', o', hbo, hb1, y0, y1, y2, y3⟩ := hz.out wr hBr m _ hem.out
          cases hbo
          obtain ⟨c1, k1, o1, n1⟩ := em
          simp only at y0 y1 y2 y3
          have hmi : (((m + 1 : Nat) : Int) - 1) = (m : Int) := by omega
          rw [hmi]
          obtain ⟨Y1, hY1⟩ : ∃ Y1, Hid (wr.alloc (.cells #[.int .i64 k1, .int .i64 o1, .int .i64 n1] 55) = Y1) := ⟨_, rfl⟩
          have hBy : Below wr.heap.size wr Y1 := by rw [← hY1.out]; exact (Below.refl _ wr).alloc (Nat.le_refl _) _
          have z1 : Y1.heap[wr.heap.size]? = some (.cells #[.int .i64 k1, .int .i64 o1, .int .i64 n1] 55 (0, 0)) := by rw [← hY1.out]; exact heap_alloc_new wr _
          obtain ⟨r0, r1, r2⟩ := cells3 z1
          have hlx := (Array.getElem?_eq_some_iff.1 x1).1
          have x2 := (hBy.block _ (Nat.lt_of_lt_of_le hlx hBr.size)).trans ((hBr.block _ hlx).trans x1)
          obtain ⟨u0, u1, u2⟩ := cells3 x2
          have hst : Hid (lastSet evs o0 n0 (m + 1) = if setOf ⟨c1, k1, o1, n1⟩ o0 n0 then some m else lastSet evs o0 n0 m) := by unfold Hid; simp only [lastSet, hem.out]
          have hBy' : Hid (Below X1.heap.size X1 Y1) := hBr.trans (hBy.mono hBr.size)
          replace hBr := hid_of hBr
          replace hBy := hid_of hBy
          replace x2 := hid_of x2
          replace z1 := hid_of z1
          by_cases hk9 : k1 = 9
          · subst hk9
            obtain ⟨t, ht⟩ : ∃ t, Hid ((decide (o1 = o0) && decide (n1 = n0)) = t) := ⟨_, rfl⟩
            have heq : ∀ w, (binOp .eql 90 (.agg #[.int .i64 o1, .int .i64 n1]) (.agg #[.int .i64 o0, .int .i64 n0])).run Try.prog w = .ok (.bool t) w := fun w => by rw [eq_thing, ht.out]
            go_wp2_with (rw [hY1.out])
            clear hY1 y0 y1 y2 y3
            go_region_held3 (fun w' => w'.cell? ⟨wr.heap.size, 0, none⟩ = some (.int .i64 9) ∧ w'.cell? ⟨wr.heap.size, 1, none⟩ = some (.int .i64 o1) ∧ w'.cell? ⟨wr.heap.size, 2, none⟩ = some (.int .i64 n1) ∧ w'.cell? ⟨W1.heap.size, 0, none⟩ = some (.int .i64 8) ∧ w'.cell? ⟨W1.heap.size, 1, none⟩ = some (.int .i64 o0) ∧ w'.cell? ⟨W1.heap.size, 2, none⟩ = some (.int .i64 n0)) (go_keep) (first
              | (refine (hof.out o1 n1 Y1.drew 9).mono ?_; rintro e Z1 ⟨rfl, hz1⟩; have t0 : Z1.cell? ⟨wr.heap.size, 0, none⟩ = some (.int .i64 9) := stay hz1 r0; have t1 : Z1.cell? ⟨wr.heap.size, 1, none⟩ = some (.int .i64 o1) := stay hz1 r1; have t2 : Z1.cell? ⟨wr.heap.size, 2, none⟩ = some (.int .i64 n1) := stay hz1 r2; have t3 : Z1.cell? ⟨W1.heap.size, 0, none⟩ = some (.int .i64 8) := stay hz1 u0; have t4 : Z1.cell? ⟨W1.heap.size, 1, none⟩ = some (.int .i64 o0) := stay hz1 u1; have t5 : Z1.cell? ⟨W1.heap.size, 2, none⟩ = some (.int .i64 n0) := stay hz1 u2; replace hz1 := hid_of hz1)
              | (refine (hof.out o0 n0 Z1 8).mono ?_; rintro e Z2 ⟨rfl, hz2⟩; have e0 := stay hz2 t0; have e1 := stay hz2 t1; have e2 := stay hz2 t2; have e3 := stay hz2 t3; have e4 := stay hz2 t4; have e5 := stay hz2 t5; replace hz2 := hid_of hz2))
            clear e0 e1 e2 e3 e4 e5 t0 t1 t2 t3 t4 t5
            have hBz : Hid (Below X1.heap.size X1 Z2) := by
              have q1 := (below_drew hBy'.out).trans (hz1.out.mono hBy'.out.size)
              exact q1.trans (hz2.out.mono q1.size)
            cases t with
            | true =>
              obtain rfl : some m = v := by rw [← hm.out, hst.out]; unfold setOf; simp only [ht.out]; simp
              go_wp2_with fail
              exact bodyPost_ret (v := .tuple #[.int .i64 (m : Nat), .bool true]) (by simp [results, Try.results22, go_sem]) rfl ⟨rfl, hB02.out.trans (hBz.out.mono hB02.out.size)⟩
            | false =>
              go_wp2_with fail
              go_roundw
              · exact ⟨m, rfl, by omega, by unfold Hid; rw [← hm.out, hst.out]; unfold setOf; simp only [ht.out]; simp, hBz.out⟩
              · simp only [intOf]
                omega
          · have hd9 : decide (k1 = 9) = false := by simp [hk9]
            go_wp2_with (rw [hY1.out])
            clear hY1 y0 y1 y2 y3
            go_quiet (fail)
            go_wp2_with fail
            go_roundw
            · exact ⟨m, rfl, by omega, by unfold Hid; rw [← hm.out, hst.out]; unfold setOf; simp [hk9], ⟨hBy'.out.os, hBy'.out.tape, hBy'.out.output, hBy'.out.size, hBy'.out.block⟩⟩
            · simp only [intOf]
              omega
    · obtain rfl : none = v := by
        rw [← hv.out]
        unfold seesO
        rw [if_neg (by omega), Int.toNat_natCast, hev.out]
        simp [hk8]
      go_wp2_with (rw [hX1.out])
      exact bodyPost_ret (v := .tuple #[.int .i64 0, .bool false]) (by simp [results, Try.results22, go_sem]) rfl ⟨rfl, hB02.out⟩
  · obtain rfl : none = v := by rw [← hv.out]; unfold seesO; rw [if_pos (by right; right; exact h0)]
    have hne : (chk evs clients != 0) = true := by simp [h0]
    go_wp2_with fail
    exact bodyPost_ret (v := .tuple #[.int .i64 0, .bool false]) (by simp [results, Try.results22, go_sem]) rfl ⟨rfl, hB1⟩
end Go.Proofs.Ytdgdfpgekccibab
