import Derived.Test.YtgigikcopedoeaaGreatLI
/-! Keys of an order in memory; whether a path is there already. -/
namespace Go.Proofs.YtgigikcopedoeaaGreat.Tree
open Go Go.RowKit

/-- A path, and whether it falls. -/
abbrev Turn := List ByteArray × Bool
def KeysRep (enc : Bool → Value) (W : World) : List Turn → List Value → Prop
  | [], xs => xs = []
  | (l, fl) :: ts, xs => ∃ pa pc r, xs = .slice pa l.length pc :: enc fl :: r ∧ Reads W (.slice pa l.length pc) l ∧ KeysRep enc W ts r
theorem KeysRep.len {enc : Bool → Value} {W : World} : {ts : List Turn} → {xs : List Value} → KeysRep enc W ts xs → xs.length = ts.length * 2
  | [], xs, h => by unfold KeysRep at h; subst h; rfl
  | (l, fl) :: ts, xs, h => by
    unfold KeysRep at h
    obtain ⟨pa, pc, r, e, h1, h2⟩ := h
    subst e
    have := KeysRep.len h2
    simp; omega
theorem KeysRep.snoc {enc : Bool → Value} {W : World} {l : List ByteArray} {fl : Bool} {pa : Option Addr} {pc : Nat} (hr : Reads W (.slice pa l.length pc) l) : {ts : List Turn} → {xs : List Value} → KeysRep enc W ts xs → KeysRep enc W (ts ++ [(l, fl)]) (xs ++ [.slice pa l.length pc, enc fl])
  | [], xs, h => by unfold KeysRep at h; subst h; exact ⟨pa, pc, [], rfl, hr, rfl⟩
  | (l', fl') :: ts, xs, h => by
    unfold KeysRep at h
    obtain ⟨pa', pc', r, e, h1, h2⟩ := h
    subst e
    exact ⟨pa', pc', r ++ [.slice pa l.length pc, enc fl], by simp, h1, KeysRep.snoc hr h2⟩
theorem KeysRep.at {enc : Bool → Value} {W : World} : {ts : List Turn} → {xs : List Value} → {i : Nat} → {l : List ByteArray} → {fl : Bool} → KeysRep enc W ts xs → ts[i]? = some (l, fl) → ∃ pa pc, xs[i * 2]? = some (.slice pa l.length pc) ∧ xs[i * 2 + 1]? = some (enc fl) ∧ Reads W (.slice pa l.length pc) l
  | [], xs, i, l, fl, _, h => by simp at h
  | (l', fl') :: ts, xs, 0, l, fl, h, hi => by
    unfold KeysRep at h
    obtain ⟨pa, pc, r, e, h1, h2⟩ := h
    obtain ⟨rfl, rfl⟩ : l' = l ∧ fl' = fl := by simpa using hi
    subst e
    exact ⟨pa, pc, rfl, rfl, h1⟩
  | (l', fl') :: ts, xs, i + 1, l, fl, h, hi => by
    unfold KeysRep at h
    obtain ⟨pa, pc, r, e, h1, h2⟩ := h
    subst e
    obtain ⟨pa', pc', k1, k2, k3⟩ := KeysRep.at h2 (by simpa using hi)
    refine ⟨pa', pc', ?_, ?_, k3⟩
    · rw [show (i + 1) * 2 = i * 2 + 2 by omega]; simpa using k1
    · rw [show (i + 1) * 2 + 1 = i * 2 + 1 + 2 by omega]; simpa using k2
def KeysAt (enc : Bool → Value) (w : World) (a : Option Addr) (ts : List Turn) : Prop := ∀ i l fl, ts[i]? = some (l, fl) → ∃ b o pa pc, a = some ⟨b, o, none⟩ ∧ w.cell? ⟨b, o + i * 2, none⟩ = some (.slice pa l.length pc) ∧ w.cell? ⟨b, o + i * 2 + 1, none⟩ = some (enc fl) ∧ Reads w (.slice pa l.length pc) l
theorem KeysAt.keep {enc : Bool → Value} {w w' : World} {a : Option Addr} {ts : List Turn} (h : KeysAt enc w a ts) (hb : Below w.heap.size w w') : KeysAt enc w' a ts := fun i l fl hi => by
  obtain ⟨b, o, pa, pc, e, h1, h2, h3⟩ := h i l fl hi
  exact ⟨b, o, pa, pc, e, stay hb h1, stay hb h2, h3.keep hb⟩
theorem row_keys {enc : Bool → Value} {W : World} {lo : Nat} {ty : TypeId} {a : Option Addr} {c n : Nat} {ts : List Turn} {xs : List Value} (hrow : W.ownsRow lo ty 2 (.slice a n c) n xs) (hI : KeysRep enc W ts xs) : KeysAt enc W a ts := by
  intro i l fl hi
  obtain ⟨pa, pc, k1, k2, k3⟩ := hI.at hi
  rcases hrow.2 with ⟨e, h0⟩ | ⟨g, cap, cur, e, hg, hh, hc, hm, hs, ht⟩
  · have h1 := hrow.1
    rw [h0] at h1
    have : xs = [] := List.eq_nil_of_length_eq_zero (by omega)
    subst this
    simp at k1
  · obtain ⟨rfl, -, rfl⟩ : a = _ ∧ n = n ∧ c = cap := by simpa using e
    have hcell : ∀ j u, xs[j]? = some u → W.cell? ⟨g, j, none⟩ = some u := fun j u hj => by
      have hlt := (List.getElem?_eq_some_iff.1 hj).1
      rw [← ht, List.getElem?_take_of_lt (by rw [hrow.1] at hlt; exact hlt), Array.getElem?_toList] at hj
      simp [World.cell?, hh, hj]
    exact ⟨g, 0, pa, pc, rfl, by rw [Nat.zero_add]; exact hcell _ _ k1, by rw [Nat.zero_add]; exact hcell _ _ k2, k3⟩
set_option maxHeartbeats 2000000 in
set_option maxRecDepth 100000 in
theorem add1_any (A l : List ByteArray) (fl : Bool) (a : Option Addr) (c pb : Nat) (b : Option Addr) (d : Nat) (w : World) (hp : w.cell? ⟨pb, 0, none⟩ = some (.slice b l.length d)) (hA : Reads w (.slice a A.length c) A) (hl : Reads w (.slice b l.length d) l) :
    Calls Tryz.prog 64 #[.agg #[.slice a A.length c, .bool fl], .pointer (some ⟨pb, 0, none⟩)] w fun e w' => e = .returned (.bool (decide (A = l))) ∧ Below w.heap.size w w' := by
  have HB : Below w.heap.size w (w.alloc (.cells #[.slice a A.length c, .bool fl] 66)) := (Below.refl _ w).alloc (Nat.le_refl _) _
  have call := hid_e (sequal_any a c b d A l _ (hA.keep HB) (hl.keep HB))
  have p0 := stay HB hp
  replace HB := hid_e HB
  obtain ⟨m, hm⟩ : ∃ m, Hid (A.length = m) := ⟨_, rfl⟩
  obtain ⟨k, hk⟩ : ∃ k, Hid (l.length = k) := ⟨_, rfl⟩
  obtain ⟨Z, hZ⟩ : ∃ Z, Hid (decide (A = l) = Z) := ⟨_, rfl⟩
  rw [hZ.out] at call ⊢
  rw [hm.out] at call p0 HB ⊢
  rw [hk.out] at call p0
  clear hA hl hp hZ
  go_enter Tryz.func64, Tryz.ntmps64
  go_wp2_with (go_at_call 65; refine call.out.mono ?_; rintro e w1 ⟨rfl, hb⟩; replace hb := hid_e hb)
  go_ret
  exact ⟨rfl, HB.out.trans (hb.out.mono HB.out.size)⟩
def hasP (ts : List Turn) (l : List ByteArray) : Bool := ts.any (fun t => decide (t.1 = l))
set_option maxHeartbeats 4000000 in
set_option maxRecDepth 100000 in
theorem tindex_any (ts : List Turn) (l : List ByteArray) (a : Option Addr) (c n pb : Nat) (b : Option Addr) (d : Nat) (w : World) (hn : ts.length = n) (hnn : n ≤ 1000) (hK : KeysAt .bool w a ts) (hp : w.cell? ⟨pb, 0, none⟩ = some (.slice b l.length d)) (hl : Reads w (.slice b l.length d) l) :
    Calls Tryz.prog 103 #[.slice a n c, .func (.func 64) #[] #[.pointer (some ⟨pb, 0, none⟩)]] w fun e w' => ∃ z : Int, e = .returned (.int .i64 z) ∧ decide (0 ≤ z) = hasP ts l ∧ Below w.heap.size w w' := by
  have n0 : (0 : Int) ≤ (n : Int) := by omega
  have n1 : (n : Int) ≤ 1000 := by omega
  replace hn := hid_e hn
  replace hK := hid_e hK
  replace hp := hid_e hp
  replace hl := hid_e hl
  go_enter Tryz.func103, Tryz.ntmps103
  go_wp2_with fail
  go_loopw [5, 8] (fun _ iv wr => ∃ q : Nat, iv = .int .i64 q ∧ q ≤ n ∧ Hid (hasP (ts.take q) l = false) ∧ Hid (Below w.heap.size w wr)) (fun _ iv _ => n - (intOf iv).toNat)
  case atStart => exact ⟨0, rfl, Nat.zero_le _, rfl, Below.refl _ _⟩
  case round =>
    obtain ⟨q, rfl, hq, hno, hb⟩ := hrel
    by_cases hlt : q < n
    · have q1 : (q : Int) < (n : Int) := by omega
      have q0 : (0 : Int) ≤ (q : Int) := by omega
      obtain ⟨⟨A, fl⟩, hu⟩ : ∃ u, Hid (ts[q]? = some u) := ⟨ts[q]'(by rw [hn.out]; omega), List.getElem?_eq_getElem (by rw [hn.out]; omega)⟩
      obtain ⟨g, o, pa, pc, ea, c0, c1, hr⟩ := hK.out q A fl hu.out
      subst ea
      have x0 := stay hb.out c0
      have x1 := stay hb.out c1
      have call := hid_e (add1_any A l fl pa pc pb b d wr (stay hb.out hp.out) (hr.keep hb.out) (hl.out.keep hb.out))
      have hst : Hid (hasP (ts.take (q + 1)) l = decide (A = l)) := by
        show _ = _
        have h := hno.out
        unfold hasP at h ⊢
        rw [List.take_add_one, hu.out, List.any_append, h]
        simp
      have hall : Hid (decide (A = l) = true → hasP ts l = true) := by
        intro h
        unfold hasP
        exact List.any_eq_true.2 ⟨(A, fl), List.mem_of_getElem? hu.out, h⟩
      obtain ⟨m, hm⟩ : ∃ m, Hid (A.length = m) := ⟨_, rfl⟩
      obtain ⟨Z, hZ⟩ : ∃ Z, Hid (decide (A = l) = Z) := ⟨_, rfl⟩
      rw [hZ.out] at call hst hall
      rw [hm.out] at call x0
      clear c0 c1 hr hZ
      go_wp2_with fail
      refine call.out.mono ?_
      rintro e w1 ⟨rfl, hb1⟩
      have hb' := hid_e (hb.out.trans (hb1.mono hb.out.size))
      clear hb1 call x0 x1
      cases Z with
      | true =>
        go_wp2_with fail
        go_ret
        exact ⟨q, rfl, by rw [hall.out (by trivial)]; simp, hb'.out⟩
      | false =>
        go_wp2_with fail
        exact ⟨⟨q + 1, by go_num, by omega, hst, hb'⟩, by simp [intOf]; omega⟩
    · obtain rfl : q = n := by omega
      have q1 : ¬ (q : Int) < (q : Int) := by omega
      rw [List.take_of_length_le (by rw [hn.out]; omega)] at hno
      go_wp2_with fail
      go_ret
      exact ⟨-1, rfl, by rw [hno.out]; decide, hb.out⟩
set_option maxHeartbeats 4000000 in
set_option maxRecDepth 100000 in
theorem tcontains_any (ts : List Turn) (l : List ByteArray) (a : Option Addr) (c n pb : Nat) (b : Option Addr) (d : Nat) (w : World) (hn : ts.length = n) (hnn : n ≤ 1000) (hK : KeysAt .bool w a ts) (hp : w.cell? ⟨pb, 0, none⟩ = some (.slice b l.length d)) (hl : Reads w (.slice b l.length d) l) :
    Calls Tryz.prog 63 #[.slice a n c, .func (.func 64) #[] #[.pointer (some ⟨pb, 0, none⟩)]] w fun e w' => e = .returned (.bool (hasP ts l)) ∧ Below w.heap.size w w' := by
  have call := hid_e (tindex_any ts l a c n pb b d w hn hnn hK hp hl)
  clear hK hp hl
  go_enter Tryz.func63, Tryz.ntmps63
  go_wp2_with fail
  refine call.out.mono ?_
  rintro e w1 ⟨z, rfl, hz, hb⟩
  replace hz := hid_e hz
  replace hb := hid_e hb
  go_wp2_with fail
  go_ret
  exact ⟨by show Ending.returned (.bool (decide (0 ≤ z))) = _; rw [hz.out], hb.out⟩
end Go.Proofs.YtgigikcopedoeaaGreat.Tree
