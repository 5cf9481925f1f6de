import Derived.Test.YtdgdfpgekccibabAH
import Derived.Test.YtdgdfpgekccibabCW
import Derived.Test.YtdgdfpgekccibabOW
import Derived.Test.YtdgdfpgekccibabAE
import Derived.Test.YtdgdfpgekccibabRows
import Derived.WalkKit
import Derived.ProofKit
import Derived.OpenShut
import Derived.Carry
/-! ClocksAhead. -/
namespace Go.Proofs.Ytdgdfpgekccibab
open Go Go.ChangeShapes Go.WideShapes Go.ChangeAt Go.RowKit
theorem before_know {evs : List Ev} {clients : Int} (h0 : chk evs clients = 0) {i j : Nat} (hi : i < evs.length) (hj : j < evs.length) : beforeB evs clients i j = knowB evs j i := by
  have he := List.getElem?_eq_getElem hi
  rw [knowB_eq he]
  by_cases hij : i < j
  · rw [before_later h0 he hj hij, decide_eq_true hij, Bool.true_and]
  · rw [before_not hij, decide_eq_false hij, Bool.false_and]
theorem before_bad {evs : List Ev} {clients i j : Int} (h : chk evs clients ≠ 0 ∨ i < 0 ∨ j < 0 ∨ (evs.length : Int) ≤ i ∨ (evs.length : Int) ≤ j) : beforeB evs clients i j = false := by
  cases hb : beforeB evs clients i j with
  | false => rfl
  | true =>
    unfold beforeB at hb
    simp only [Bool.and_eq_true, decide_eq_true_eq] at hb
    omega
set_option maxHeartbeats 4000000 in
set_option maxRecDepth 100000 in
theorem ahead_true (a : Option Addr) (cap : Nat) (evs : List Ev) (clients i j : Int) (w : World) (hE : EvsAt w a evs) (hcap : evs.length ≤ cap) (hcm : cap ≤ 9223372036854775807) (hwf : ∀ e ∈ evs, I64 e.o ∧ I64 e.n) :
    Calls Try.prog 3 #[.slice a evs.length cap, .int .i64 clients, .int .i64 i, .int .i64 j] w fun e w' => e = .returned (.bool true) ∧ Below w.heap.size w w' := by
  by_cases hl : 200 < evs.length
  · go_enter Try.func3, Try.ntmps3
    go_wp2_with fail
    exact bodyPost_ret (v := .bool true) (by simp [results, Try.results3, go_sem]) rfl ⟨rfl, Below.refl _ w⟩
  · have hown := hid_of (own_any a cap evs w hE (by omega))
    obtain ⟨t, ht⟩ : ∃ t, Hid (beforeB evs clients i j = t) := ⟨_, rfl⟩
    obtain ⟨n, hn⟩ : ∃ n, Hid (evs.length = n) := ⟨_, rfl⟩
    obtain ⟨ck, hck⟩ : ∃ ck, Hid (chk evs clients = ck) := ⟨_, rfl⟩
    rw [hn.out] at hl hcap hown ⊢
    go_enter Try.func3, Try.ntmps3
    go_wp2_with fail
    refine hown.out.mono ?_
    clear hown
    rintro e W1 ⟨hB1, g, c, rfl, hO⟩
    obtain ⟨hE1, hc1, hc2, -, -⟩ := own_evs hO
    have hs1 := before_any (some ⟨g, 0, none⟩) c evs clients i j W1 hE1 (by omega) (by unfold maxLen at hc2; omega) hwf
    rw [ht.out, hn.out] at hs1
    replace hs1 := hid_of hs1
    clear hO hE1
    rw [hn.out]
    go_wp2_with fail
    refine hs1.out.mono ?_
    clear hs1
    rintro e W2 ⟨rfl, hB2⟩
    have hB02 : Below w.heap.size w W2 := hB1.trans (hB2.mono hB1.size)
    have hs2 := refcheck_any a cap evs clients W2 (hE.keep hB02) (by rw [hn.out]; omega)
    rw [hck.out, hn.out] at hs2
    replace hs2 := hid_of hs2
    have hlv := hid_of (live_any W2)
    replace hB02 := hid_of hB02
    clear hB1 hB2 hc1 hc2
    by_cases hbad : ck ≠ 0 ∨ i < 0 ∨ j < 0 ∨ (n : Int) ≤ i ∨ (n : Int) ≤ j
    · obtain rfl : false = t := by rw [← ht.out]; exact (before_bad (by rw [hck.out, hn.out]; exact hbad)).symm
      go_wp2_with fail
      refine hs2.out.mono ?_
      clear hs2
      rintro e Z ⟨rfl, hz⟩
      obtain rfl : W2 = Z := hz.symm
      clear hz
      by_cases q0 : ck = 0
      · subst q0
        by_cases q1 : i < 0
        · go_wp2_with fail
          refine hlv.out.mono ?_
          rintro e W4 ⟨rfl, hB4⟩
          go_wp2_with fail
          exact bodyPost_ret (v := .bool true) (by simp [results, Try.results3, go_sem]) rfl ⟨rfl, hB02.out.trans (hB4.mono hB02.out.size)⟩
        · by_cases q2 : j < 0
          · go_wp2_with fail
            refine hlv.out.mono ?_
            rintro e W4 ⟨rfl, hB4⟩
            go_wp2_with fail
            exact bodyPost_ret (v := .bool true) (by simp [results, Try.results3, go_sem]) rfl ⟨rfl, hB02.out.trans (hB4.mono hB02.out.size)⟩
          · by_cases q3 : (n : Int) ≤ i
            · go_wp2_with fail
              refine hlv.out.mono ?_
              rintro e W4 ⟨rfl, hB4⟩
              go_wp2_with fail
              exact bodyPost_ret (v := .bool true) (by simp [results, Try.results3, go_sem]) rfl ⟨rfl, hB02.out.trans (hB4.mono hB02.out.size)⟩
            · have q4 : (n : Int) ≤ j := by omega
              go_wp2_with fail
              refine hlv.out.mono ?_
              rintro e W4 ⟨rfl, hB4⟩
              go_wp2_with fail
              exact bodyPost_ret (v := .bool true) (by simp [results, Try.results3, go_sem]) rfl ⟨rfl, hB02.out.trans (hB4.mono hB02.out.size)⟩
      · have q0b : (ck != 0) = true := by simp [q0]
        go_wp2_with fail
        refine hlv.out.mono ?_
        rintro e W4 ⟨rfl, hB4⟩
        go_wp2_with fail
        exact bodyPost_ret (v := .bool true) (by simp [results, Try.results3, go_sem]) rfl ⟨rfl, hB02.out.trans (hB4.mono hB02.out.size)⟩
    · obtain rfl : ck = 0 := by omega
      obtain ⟨i, rfl⟩ := Int.eq_ofNat_of_zero_le (a := i) (by omega)
      obtain ⟨j, rfl⟩ := Int.eq_ofNat_of_zero_le (a := j) (by omega)
      have hin : i < n := by omega
      have hjn : j < n := by omega
      clear hbad
      obtain rfl : knowB evs j i = t := by rw [← ht.out]; exact (before_know hck.out (by rw [hn.out]; exact hin) (by rw [hn.out]; exact hjn)).symm
      obtain ⟨c1, c2, c3, c4⟩ := chk_ok hck.out
      have hah := refahead_any a cap evs W2 (hE.keep hB02.out) (by rw [hn.out]; exact hcap) hcm (by rw [hn.out]; omega) (fun e he => (ok_c (c4 e he) c2).1)
      rw [hn.out] at hah
      replace hah := hid_of hah
      clear c1 c2 c3 c4 ht hlv
      go_wp2_with fail
      refine hs2.out.mono ?_
      clear hs2
      rintro e Z ⟨rfl, hz⟩
      obtain rfl : W2 = Z := hz.symm
      clear hz
      go_wp2_with fail
      refine hah.out.mono ?_
      clear hah
      rintro e W3 ⟨ov, G, rfl, hT, hB3⟩
      obtain ⟨oa, oc, hov, hoc, -, hog⟩ := ownsRow_form hT.row
      obtain ⟨g, rfl⟩ := hog (by omega)
      subst hov
      have y0 := ownsRow_cell hT.row (rowsV_at (G := G) (n := n) hjn)
      have y1 := (hT.each j hjn).2.cell hin
      have hlv := hid_of (live_any W3)
      have hB03 : Hid (Below w.heap.size w W3) := hB02.out.trans (hB3.mono hB02.out.size)
      obtain ⟨r, hr⟩ : ∃ r, Hid (knowB evs j i = r) := ⟨_, rfl⟩
      rw [hr.out] at y1
      rw [hr.out]
      clear hT hB3
      cases r with
      | true =>
        go_wp2_with fail
        refine hlv.out.mono ?_
        rintro e W4 ⟨rfl, hB4⟩
        go_wp2_with fail
        exact bodyPost_ret (v := .bool true) (by simp [results, Try.results3, go_sem]) rfl ⟨rfl, hB03.out.trans (hB4.mono hB03.out.size)⟩
      | false =>
        go_wp2_with fail
        refine hlv.out.mono ?_
        rintro e W4 ⟨rfl, hB4⟩
        go_wp2_with fail
        exact bodyPost_ret (v := .bool true) (by simp [results, Try.results3, go_sem]) rfl ⟨rfl, hB03.out.trans (hB4.mono hB03.out.size)⟩
theorem own_knob : ownKnob Try.prog.godebug = none := by kernel_rfl
theorem laid_out : laidOutB Try.prog = true := by kernel_rfl
section
variable {H : Type} {enc : TypeId × Value → H} {w : World} {base : Nat} {spare : Nat → Bool} {held : Bool}
/-- Four arguments. -/
theorem args_four {t0 t1 t2 t3 : TypeId} {args : Array Value} {ds : List (DataW H)} {ps : List MemPlace} (h : DataW.TrodAll enc Try.prog w base spare held [t0, t1, t2, t3] args.toList ds ps) :
    ∃ v0 v1 v2 v3 d0 d1 d2 d3 p0 p1 p2 p3, args = #[v0, v1, v2, v3] ∧ ds = [d0, d1, d2, d3] ∧ ps = p0 ++ (p1 ++ (p2 ++ p3)) ∧ DataW.Trod enc Try.prog w base spare held t0 v0 d0 p0 ∧ DataW.Trod enc Try.prog w base spare held t1 v1 d1 p1 ∧ DataW.Trod enc Try.prog w base spare held t2 v2 d2 p2 ∧ DataW.Trod enc Try.prog w base spare held t3 v3 d3 p3 := by
  obtain ⟨v0, r0, d0, e0, p0, q0, hargs, rfl, rfl, h0, k0⟩ := trodAll_cons h
  obtain ⟨v1, r1, d1, e1, p1, q1, rfl, rfl, rfl, h1, k1⟩ := trodAll_cons k0
  obtain ⟨v2, r2, d2, e2, p2, q2, rfl, rfl, rfl, h2, k2⟩ := trodAll_cons k1
  obtain ⟨v3, r3, d3, e3, p3, q3, rfl, rfl, rfl, h3, k3⟩ := trodAll_cons k2
  obtain ⟨rfl, rfl, rfl⟩ := trodAll_nil k3
  exact ⟨v0, v1, v2, v3, d0, d1, d2, d3, p0, p1, p2, p3, by cases args; simp_all, rfl, by simp, h0, h1, h2, h3⟩
end
set_option maxRecDepth 100000 in
theorem ahead_lifted (os : Os) (started : os.Started) (H : Type) (enc : TypeId × Value → H) :
    ReturnsInHanded {} Try.checked os 3 .any (Rows.clocksAheadSpec.pre6 enc Try.prog Try.f3 Rows.clocksAheadRow.domain false) (Rows.clocksAheadSpec.post enc Try.prog Try.f3 false true false false) := by
  refine returnsInHanded_of_change (C := Try.checked) own_knob started (by kernel_rfl) Try.func3
    (ChangeSpec.witness6 (enc := enc) (C := Try.checked) false ⟨#[], #[.slice none 0 0, .int .i64 0, .int .i64 0, .int .i64 0], []⟩ 8 (by kernel_rfl) (by kernel_rfl) (by kernel_rfl) (by kernel_rfl)) ?_
  intro W base args ds gs before hval0 hW hcnd _
  have hval : ∀ (j : Nat) t v, Try.f3.params[j]? = some t → args[j]? = some v → Value.okWide Try.prog W .any base t v := hval0
  have hW' := hW
  obtain ⟨p, q, hA0, hV, rfl, hfz, hnd⟩ := hW
  have hA : DataW.TrodAll enc Try.prog W 0 (fun _ => true) true Try.f3.params.toList args.toList ds p := hA0
  rw [Try.params3] at hA hval
  obtain ⟨v0, v1, v2, v3, d0, d1, d2, d3, p0, p1, p2, p3, rfl, rfl, rfl, h0, h1, h2, h3⟩ := args_four hA
  obtain ⟨rfl, rfl⟩ := trodVars_none hV
  clear hA0 hval0
  obtain ⟨a, len, cap, rfl⟩ := okWide_slice Try.underlying22 (hval 0 22 v0 rfl rfl)
  obtain ⟨i1, rfl, rfl, rfl, hw1⟩ := open_int Try.underlying3 (hval 1 3 v1 rfl rfl) h1
  obtain ⟨i2, rfl, rfl, rfl, hw2⟩ := open_int Try.underlying3 (hval 2 3 v2 rfl rfl) h2
  obtain ⟨i3, rfl, rfl, rfl, hw3⟩ := open_int Try.underlying3 (hval 3 3 v3 rfl rfl) h3
  obtain ⟨evs, rfl, hE, hl1, hl2, hwf⟩ := arg_evs h0
  simp only [List.append_nil] at hW'
  have hlt : ∀ x ∈ p0, x.block < W.heap.size := fun x hx => by simpa using hW'.lt x (by simpa using hx)
  refine (ahead_true a cap evs i1 i2 i3 W hE hl1 (by unfold maxLen at hl2; omega) (fun e he => (hwf e he).2.2)).mono fun e W' ⟨he, hg⟩ => ?_
  subst he
  exact ⟨_, rfl, _, _, _, [], _, [], hW', trodAll_mk1 (shut_bool Try.underlying4 _), trodAll_mk4 (Below.trod laid_out (by kernel_rfl) (of_decide_eq_true (by kernel_rfl)) h0 hg hlt) (shut_int Try.underlying3 hw1) (shut_int Try.underlying3 hw2) (shut_int Try.underlying3 hw3), rfl, hg.frame _, fun h => by cases h⟩
theorem ahead_holds : Rows.ClocksAheadSaid :=
  OpenClaim.holds_of_wide 3 Try.f3 rfl rfl rfl rfl rfl rfl rfl ⟨rfl, rfl, rfl, rfl, rfl⟩ rfl rfl rfl rfl rfl (by kernel_rfl) Try.func3 (by kernel_rfl)
    (of_decide_eq_true (by kernel_rfl)) (by unfold Func.isWrapper; first | (rw [if_pos (by decide +kernel)]; kernel_rfl) | (rw [if_neg (by decide +kernel)]; exact ⟨rfl, rfl⟩))
    (fun os started H enc _ => ahead_lifted os started H enc)
#print axioms ahead_holds
end Go.Proofs.Ytdgdfpgekccibab
