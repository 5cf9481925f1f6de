import Derived.Test.YtloeongljbgmnaaEF
/-! epoch: Pin. -/
namespace Go.Proofs.Ytloeongljbgmnaa
open Go Go.RowKit
def zR : Array Value := #[.int .i64 0, .slice none 0 0, .int .i64 0]
theorem row3_one (s : Int) (na : Option Addr) (nn nc : Nat) (tg : Int) : (#[.int .i64 s, .slice na nn nc, .int .i64 tg] : Array Value).all (·.oneCell') = true := by simp [Value.oneCell']
/-- A block that was not there yet may be written. -/
theorem FH.fresh {hot : TypeId → Bool} {lo : Nat} {w y : World} (h : FH hot lo w y) {g : Nat} (hg : w.heap.size ≤ g) (hlo : lo ≤ w.heap.size) (us : Array Value) : FH hot lo w (y.setRow g us) :=
  ⟨below_setRow' h.below (by omega) us, fun b vs t hb hc => (setRow_other y g b us (by have := (Array.getElem?_eq_some_iff.1 hb).1; omega)).trans (h.cold b vs t hb hc)⟩
theorem Fr.freshRow {S : Nat → Prop} {x w : World} (h : Fr S x w) {g : Nat} (hg : x.heap.size ≤ g) (us : Array Value) : Fr S x (w.setRow g us) :=
  ⟨h.os, h.tape, h.output, by rw [size_setRow']; exact h.size, fun k hk hs => (setRow_other w g k us (by omega)).trans (h.block k hk hs)⟩
theorem wrap_in {n : Int} (h0 : 0 ≤ n) (h1 : n ≤ 9223372036854775807) : IntKind.i64.wrap n = n := by rw [IntKind.wrap_i64]; omega
section
variable {lo : Nat} {w : World} {x : Kx} {v : Kv}
set_option maxRecDepth 100000 in
set_option maxHeartbeats 4000000 in
theorem pin_any (h : KS lo w x v) (hs : 0 ≤ v.s ∧ v.s ≤ 4611686018427387904) : Calls Try.prog 8 #[.pointer (some ⟨x.kb, 0, none⟩), .pointer none, .int .i64 0] w fun e w' => e = .returned (.agg #[.int .i64 v.s, .slice v.na v.nn v.nc, .int .i64 v.tg]) ∧ KS lo w' x { v with a := v.s + 1 } ∧ FH hot3 lo w w' := by
  obtain ⟨hs1, hs2⟩ := hs
  obtain ⟨W1, hW1⟩ : ∃ W1, Hid (w.alloc (.cells #[.int .i64 0, .slice none 0 0, .int .i64 0] 28) = W1) := ⟨_, rfl⟩
  have hB1 : Below w.heap.size w W1 := by rw [← hW1.out]; exact (Below.refl _ w).alloc (Nat.le_refl _) _
  have z1 := heap_alloc_new w (.cells #[.int .i64 0, .slice none 0 0, .int .i64 0] 28)
  rw [hW1.out] at z1
  have h1 := h.under hB1
  have hh := hid_of (has_any h1)
  have hwr : Hid (IntKind.i64.wrap (v.s + 1) = v.s + 1) := wrap_in (by omega) (by omega)
  obtain ⟨-, c1, c2, -⟩ := cells4 h1.k
  obtain ⟨d0, -⟩ := cells2 h1.p
  have hrg := hid_of (fun W (hW : Below W1.heap.size W1 W) => by
    obtain ⟨vr, r1, r2⟩ := (h1.under hW).r
    exact rget_any x.rb vr 4 0 v.s v.na v.nn v.nc v.tg W r1 r2)
  have hst := hid_of (stamp_any v.s v.na v.nn v.nc v.tg)
  have his := hid_of (fun W (hW : Below W1.heap.size W1 W) => by
    obtain ⟨vb, a1, a2⟩ := (h1.under hW).p0
    exact iset_any x.q0 vb 4 1 (v.s + 1) W a1)
  replace h1 := hid_of h1
  replace z1 := hid_of z1
  replace hB1 := hid_of hB1
  replace h := hid_of h
  go_enter Try.func8, Try.ntmps8
  go_upto_region 1 with (rw [hW1.out])
  go_upto_region 3 with fail
  refine hh.out.mono ?_
  rintro e W2 ⟨rfl, hz⟩
  obtain rfl : W1 = W2 := hz.symm
  clear hh hz
  go_upto_region 3 with fail
  go_region_held3 (fun w' => w'.cell? ⟨x.kb, 1, none⟩ = some (.pointer (some ⟨x.rb, 0, none⟩)) ∧ w'.cell? ⟨x.kb, 2, none⟩ = some (.slice (some ⟨x.pb, 0, none⟩) 2 2) ∧ w'.cell? ⟨x.pb, 0, none⟩ = some (.pointer (some ⟨x.q0, 0, none⟩))) (go_keep) (first
    | (go_at_call 20; refine (hrg.out W1.drew (below_drew (Below.refl _ W1))).mono ?_; rintro e Z1 ⟨rfl, hz1⟩; have t0 : Z1.cell? ⟨x.kb, 1, none⟩ = some (.pointer (some ⟨x.rb, 0, none⟩)) := stay hz1 c1; have t1 : Z1.cell? ⟨x.kb, 2, none⟩ = some (.slice (some ⟨x.pb, 0, none⟩) 2 2) := stay hz1 c2; have t2 : Z1.cell? ⟨x.pb, 0, none⟩ = some (.pointer (some ⟨x.q0, 0, none⟩)) := stay hz1 d0; have hb1 : Hid (Below W1.heap.size W1 Z1) := (below_drew (Below.refl _ W1)).trans hz1; clear hz1)
    | (go_at_call 21; refine (hst.out Z1).mono ?_; rintro e Z2 ⟨rfl, hz2⟩; have s0 : Z2.cell? ⟨x.kb, 1, none⟩ = some (.pointer (some ⟨x.rb, 0, none⟩)) := stay hz2 t0; have s1 : Z2.cell? ⟨x.kb, 2, none⟩ = some (.slice (some ⟨x.pb, 0, none⟩) 2 2) := stay hz2 t1; have s2 : Z2.cell? ⟨x.pb, 0, none⟩ = some (.pointer (some ⟨x.q0, 0, none⟩)) := stay hz2 t2; have hb2 : Hid (Below W1.heap.size W1 Z2) := hb1.out.trans (hz2.mono hb1.out.size); clear hz2)
    | (go_at_call 19; rw [hwr.out]; refine (his.out Z2 hb2.out).mono ?_; rintro e Z3 ⟨rfl, hF3, vb3, hv3, k1, k2⟩; have h3 := (h1.out.under hb2.out).setP hF3 k1 k2; have q0 : Z3.cell? ⟨x.kb, 1, none⟩ = some (.pointer (some ⟨x.rb, 0, none⟩)) := (cells4 h3.1.k).2.1; have q1 : Z3.cell? ⟨x.kb, 2, none⟩ = some (.slice (some ⟨x.pb, 0, none⟩) 2 2) := (cells4 h3.1.k).2.2.1; have q2 : Z3.cell? ⟨x.pb, 0, none⟩ = some (.pointer (some ⟨x.q0, 0, none⟩)) := (cells2 h3.1.p).1; replace h3 := hid_of h3; replace hF3 := hid_of hF3; replace hv3 := hid_of hv3; replace k1 := hid_of k1; replace k2 := hid_of k2))
  obtain ⟨h3, hT3⟩ := h3.out
  have hF : Fr (· = x.q0) w Z3 := (Fr.of_below (hB1.out.trans (hb2.out.mono hB1.out.size))).trans hF3.out
  have z3 := hT3.cold _ _ _ ((hb2.out.block _ (Array.getElem?_eq_some_iff.1 z1.out).1).trans z1.out) rfl
  obtain ⟨vq, g1, g2⟩ := h3.r
  have hg := hid_of (rget_any x.rb vq 4 0 v.s v.na v.nn v.nc v.tg Z3 g1 g2)
  have hsz : w.heap.size < vb3 := Nat.lt_of_lt_of_le (Nat.lt_of_lt_of_le (Array.getElem?_eq_some_iff.1 z1.out).1 hb2.out.size) hv3.out
  have hq0 : x.q0 < w.heap.size := by obtain ⟨vb, a1, a2⟩ := h.out.p0; exact (Array.getElem?_eq_some_iff.1 a1).1
  replace z3 := hid_of z3
  replace hF := hid_of hF
  replace hsz := hid_of hsz
  replace hq0 := hid_of hq0
  clear g1 g2 h3 hT3 hF3 hv3 hrg hst his t0 t1 t2 s0 s1 s2 hb1 hb2 c1 c2 d0 h1 hwr hB1 z1
  go_wp2_with fail
  refine hg.out.mono ?_
  rintro e X ⟨rfl, hBX⟩
  have zx := (hBX.block _ (Array.getElem?_eq_some_iff.1 z3.out).1).trans z3.out
  have hfin : Hid (KS lo (X.setRow w.heap.size #[.int .i64 v.s, .slice v.na v.nn v.nc, .int .i64 v.tg]) x { v with a := v.s + 1 } ∧ FH hot3 lo w (X.setRow w.heap.size #[.int .i64 v.s, .slice v.na v.nn v.nc, .int .i64 v.tg])) := by
    have hX := (hF.out.next (Fr.of_below (S := fun _ => False) hBX) (fun _ h => h.elim)).freshRow (Nat.le_refl _) #[.int .i64 v.s, .slice v.na v.nn v.nc, .int .i64 v.tg]
    have n1 := hsz.out
    have n2 := hq0.out
    exact h.out.setP hX ((setRow_other _ _ _ _ (by omega)).trans ((hBX.block _ (Array.getElem?_eq_some_iff.1 k1.out).1).trans k1.out)) ((setRow_other _ _ _ _ (by omega)).trans ((hBX.block _ (Array.getElem?_eq_some_iff.1 k2.out).1).trans k2.out))
  have kk := setRow_heap X w.heap.size _ #[.int .i64 v.s, .slice v.na v.nn v.nc, .int .i64 v.tg] _ _ zx
  obtain ⟨y0, y1, y2⟩ := cells3 kk
  clear hg hBX hF hsz hq0 k1 k2 z3 kk q0 q1 q2
  go_wp2_with (refine wpList_store_row rfl 28 _ _ rfl w.heap.size _ rfl rfl _ _ zx r_i rfl (row3_one _ _ _ _ _) ?_)
  go_wp2_with fail
  exact bodyPost_ret (v := .agg #[.int .i64 v.s, .slice v.na v.nn v.nc, .int .i64 v.tg]) (by simp [results, Try.results8, go_sem, y0, y1, y2]) rfl ⟨rfl, hfin.out⟩
end
end Go.Proofs.Ytloeongljbgmnaa
