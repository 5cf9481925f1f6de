import Derived.Test.YtdgdfpgekccibabRC
import Derived.Test.YtdgdfpgekccibabRD
import Derived.Test.YtdgdfpgekccibabAA
import Derived.SizedLaws
/-! ClocksRaces. -/
namespace Go.Proofs.Ytdgdfpgekccibab
open Go Go.ChangeShapes Go.WideShapes Go.ChangeAt Go.RowKit
theorem rr_get : (l : List (Nat × Nat)) → (i : Nat) → (flatR l)[i * 2]? = (l[i]?).map (fun u => Value.int .i64 (u.1 : Nat)) ∧ (flatR l)[i * 2 + 1]? = (l[i]?).map (fun u => Value.int .i64 (u.2 : Nat))
  | [], i => by simp [flatR]
  | u :: l, 0 => by simp [flatR]
  | u :: l, i + 1 => by
    have := rr_get l i
    unfold flatR at this ⊢
    rw [show (i + 1) * 2 = i * 2 + 2 from by omega]
    simpa using this
/-- How many races are told. -/
def mR (evs : List Ev) (clients : Int) : Nat := if chk evs clients = 0 then (raceK evs evs.length).length else 0
def fR (evs : List Ev) (i : Nat) : Int := ((((raceK evs evs.length)[i]?).getD (0, 0)).1 : Nat)
def sR (evs : List Ev) (i : Nat) : Int := ((((raceK evs evs.length)[i]?).getD (0, 0)).2 : Nat)
theorem races_form {w w' : World} {evs : List Ev} {clients : Int} {e : Ending} (h : RacesPost w evs clients e w') : Below w.heap.size w w' ∧ ∃ ra rc, e = .returned (.tuple #[.slice ra (mR evs clients) rc, .int .i64 (chk evs clients)]) ∧ mR evs clients ≤ rc ∧ rc ≤ 9223372036854775807 ∧ ∀ i, i < mR evs clients → ∃ g, ra = some ⟨g, 0, none⟩ ∧ w'.cell? ⟨g, i * 2, none⟩ = some (.int .i64 (fR evs i)) ∧ w'.cell? ⟨g, i * 2 + 1, none⟩ = some (.int .i64 (sR evs i)) := by
  obtain ⟨hB, h⟩ := h
  refine ⟨hB, ?_⟩
  rcases h with ⟨h0, rfl⟩ | ⟨h0, ov, rfl, hr⟩
  · have : mR evs clients = 0 := if_neg h0
    rw [this]
    exact ⟨none, 0, rfl, Nat.le_refl _, by omega, fun i hi => by omega⟩
  · have : mR evs clients = (raceK evs evs.length).length := if_pos h0
    rw [this, h0]
    obtain ⟨ra, rc, rfl, h1, h2, h3⟩ := ownsRow_form hr
    refine ⟨ra, rc, rfl, h1, by unfold maxLen at h2; omega, fun i hi => ?_⟩
    obtain ⟨g, rfl⟩ := h3 (by omega)
    obtain ⟨f1, f2⟩ := rr_get (raceK evs evs.length) i
    have hu := List.getElem?_eq_getElem hi
    rw [hu] at f1 f2
    unfold fR sR
    rw [hu]
    exact ⟨g, rfl, ownsRow_cell hr f1, ownsRow_cell hr f2⟩
set_option maxHeartbeats 4000000 in
set_option maxRecDepth 100000 in
theorem racesl_true (a : Option Addr) (cap : Nat) (evs : List Ev) (clients : Int) (w : World) (hE : EvsAt w a evs) (hcap : evs.length ≤ cap) (hcm : cap ≤ 9223372036854775807) (hwf : ∀ e ∈ evs, I64 e.o ∧ I64 e.n) (hsz : (evs.length + 8) * 32 ≤ 140737488355328) :
    Calls Try.prog 5 #[.slice a evs.length cap, .int .i64 clients] w fun e w' => e = .returned (.bool true) ∧ Below w.heap.size w w' := by
  by_cases hl : 200 < evs.length ∧ evs.length ≤ 1048576
  · obtain ⟨hl1, hl2⟩ := hl
    go_enter Try.func5, Try.ntmps5
    go_wp2_with fail
    exact bodyPost_ret (v := .bool true) (by simp [results, Try.results5, go_sem]) rfl ⟨rfl, Below.refl _ w⟩
  · have hn2 : chk evs clients = 0 → evs.length ≤ 200 := fun h0 => by
      obtain ⟨-, -, q3, -⟩ := chk_ok h0
      omega
    have hown := hid_of (own_any a cap evs w hE hsz)
    have hnum := hid_of num_any
    obtain ⟨n, hn⟩ : ∃ n, Hid (evs.length = n) := ⟨_, rfl⟩
    obtain ⟨ck, hck⟩ : ∃ ck, Hid (chk evs clients = ck) := ⟨_, rfl⟩
    obtain ⟨mr, hmr⟩ : ∃ mr, Hid (mR evs clients = mr) := ⟨_, rfl⟩
    rw [hn.out] at hl
    have hcl : Hid (evs.length ≤ cap) := hcap
    rw [hn.out] at hcap ⊢
    rw [hn.out] at hown
    have hsz' : (n + 8) * 32 ≤ 140737488355328 := by rw [← hn.out]; exact hsz
    go_enter Try.func5, Try.ntmps5
    by_cases hbig : 200 < n
    · have hbig2 : ¬ n ≤ 1048576 := fun h => hl ⟨hbig, h⟩
      go_wp2_with fail
      refine hown.out.mono ?_
      clear hown
      rintro e W1 ⟨hB1, g, c, rfl, hO⟩
      obtain ⟨hE1, hc1, hc2, -, hg⟩ := own_evs hO
      unfold maxLen at hc2
      have hs1 := hid_of (races_any (some ⟨g, 0, none⟩) c evs clients W1 hE1 (by omega) hc2 hwf)
      rw [hn.out] at hs1
      rw [hn.out]
      go_wp2_with fail
      refine hs1.out.mono ?_
      clear hs1
      rintro e W2 hP2
      obtain ⟨hB2, ra, rc, rfl, hr1, hr2, hr3⟩ := races_form hP2
      have hB02 : Below w.heap.size w W2 := hB1.trans (hB2.mono hB1.size)
      have hs2 := hid_of (refraces_any a cap evs clients W2 (hE.keep hB02) hcl.out hcm hn2)
      rw [hn.out] at hs2
      rw [hck.out, hmr.out]
      rw [hmr.out] at hr1 hr3
      go_wp2_with fail
      refine hs2.out.mono ?_
      clear hs2
      rintro e W3 hP3
      obtain ⟨hB3, sa, sc, rfl, hq1, hq2, hq3⟩ := races_form hP3
      rw [hmr.out] at hq1 hq3
      rw [hck.out, hmr.out]
      have hB13 : Below W1.heap.size W1 W3 := hB2.trans (hB3.mono hB2.size)
      have hB03 : Below w.heap.size w W3 := hB1.trans (hB13.mono hB1.size)
      have hrt := hid_of (races_true ra sa mr rc sc (fR evs) (sR evs) W3 hr1 hq1 ⟨hr2, hq2⟩ (fun i hi => by obtain ⟨g', e1, e2, e3⟩ := hr3 i hi; exact ⟨g', e1, stay hB3 e2, stay hB3 e3⟩) hq3)
      have hkp := hid_of (fun W (hW : Below W3.heap.size W3 W) => kept_any a cap g c _ evs W ((hE.keep hB03).keep hW) hcl.out hcm ((hE1.keep hB13).keep hW) hc1 hc2 (ownsRow_keep hO (fun b e => by cases e; exact (hW.block _ (Nat.lt_of_lt_of_le hg hB13.size)).trans (hB13.block _ hg))))
      rw [hn.out] at hkp
      replace hB03 := hid_of hB03
      clear hP2 hP3 hr3 hq3 hB1 hB2 hB3 hB13 hB02 hO hE1 hc1 hc2 hg
      go_wp2_with fail
      refine (hnum.out ck W3).mono ?_
      rintro e Z ⟨rfl, hz⟩
      obtain rfl : W3 = Z := hz.symm
      clear hz
      go_wp2_with fail
      refine hrt.out.mono ?_
      rintro e W4 ⟨rfl, hB4⟩
      have hk4 := hid_of (hkp.out W4 hB4)
      have hB04 : Hid (Below w.heap.size w W4) := hB03.out.trans (hB4.mono hB03.out.size)
      clear hrt hkp hB4
      go_wp2_with fail
      refine hk4.out.mono ?_
      rintro e W5 ⟨rfl, hB5⟩
      have hlv := hid_of (live_any W5)
      have hB05 : Hid (Below w.heap.size w W5) := hB04.out.trans (hB5.mono hB04.out.size)
      clear hk4 hB5
      go_wp2_with fail
      refine hlv.out.mono ?_
      rintro e W6 ⟨rfl, hB6⟩
      go_wp2_with fail
      exact bodyPost_ret (v := .bool true) (by simp [results, Try.results5, go_sem]) rfl ⟨rfl, hB05.out.trans (hB6.mono hB05.out.size)⟩
    · go_wp2_with fail
      refine hown.out.mono ?_
      clear hown
      rintro e W1 ⟨hB1, g, c, rfl, hO⟩
      obtain ⟨hE1, hc1, hc2, -, hg⟩ := own_evs hO
      unfold maxLen at hc2
      have hs1 := hid_of (races_any (some ⟨g, 0, none⟩) c evs clients W1 hE1 (by omega) hc2 hwf)
      rw [hn.out] at hs1
      rw [hn.out]
      go_wp2_with fail
      refine hs1.out.mono ?_
      clear hs1
      rintro e W2 hP2
      obtain ⟨hB2, ra, rc, rfl, hr1, hr2, hr3⟩ := races_form hP2
      have hB02 : Below w.heap.size w W2 := hB1.trans (hB2.mono hB1.size)
      have hs2 := hid_of (refraces_any a cap evs clients W2 (hE.keep hB02) hcl.out hcm hn2)
      rw [hn.out] at hs2
      rw [hck.out, hmr.out]
      rw [hmr.out] at hr1 hr3
      go_wp2_with fail
      refine hs2.out.mono ?_
      clear hs2
      rintro e W3 hP3
      obtain ⟨hB3, sa, sc, rfl, hq1, hq2, hq3⟩ := races_form hP3
      rw [hmr.out] at hq1 hq3
      rw [hck.out, hmr.out]
      have hB13 : Below W1.heap.size W1 W3 := hB2.trans (hB3.mono hB2.size)
      have hB03 : Below w.heap.size w W3 := hB1.trans (hB13.mono hB1.size)
      have hrt := hid_of (races_true ra sa mr rc sc (fR evs) (sR evs) W3 hr1 hq1 ⟨hr2, hq2⟩ (fun i hi => by obtain ⟨g', e1, e2, e3⟩ := hr3 i hi; exact ⟨g', e1, stay hB3 e2, stay hB3 e3⟩) hq3)
      have hkp := hid_of (fun W (hW : Below W3.heap.size W3 W) => kept_any a cap g c _ evs W ((hE.keep hB03).keep hW) hcl.out hcm ((hE1.keep hB13).keep hW) hc1 hc2 (ownsRow_keep hO (fun b e => by cases e; exact (hW.block _ (Nat.lt_of_lt_of_le hg hB13.size)).trans (hB13.block _ hg))))
      rw [hn.out] at hkp
      replace hB03 := hid_of hB03
      clear hP2 hP3 hr3 hq3 hB1 hB2 hB3 hB13 hB02 hO hE1 hc1 hc2 hg
      go_wp2_with fail
      refine (hnum.out ck W3).mono ?_
      rintro e Z ⟨rfl, hz⟩
      obtain rfl : W3 = Z := hz.symm
      clear hz
      go_wp2_with fail
      refine hrt.out.mono ?_
      rintro e W4 ⟨rfl, hB4⟩
      have hk4 := hid_of (hkp.out W4 hB4)
      have hB04 : Hid (Below w.heap.size w W4) := hB03.out.trans (hB4.mono hB03.out.size)
      clear hrt hkp hB4
      go_wp2_with fail
      refine hk4.out.mono ?_
      rintro e W5 ⟨rfl, hB5⟩
      have hlv := hid_of (live_any W5)
      have hB05 : Hid (Below w.heap.size w W5) := hB04.out.trans (hB5.mono hB04.out.size)
      clear hk4 hB5
      go_wp2_with fail
      refine hlv.out.mono ?_
      rintro e W6 ⟨rfl, hB6⟩
      go_wp2_with fail
      exact bodyPost_ret (v := .bool true) (by simp [results, Try.results5, go_sem]) rfl ⟨rfl, hB05.out.trans (hB6.mono hB05.out.size)⟩
theorem ev_bytes : Try.prog.bytesOf 57 = 32 := by kernel_rfl
/-- The form's own reach: eight events more have room. -/
theorem evs_sized {H : Type} {enc : TypeId × Value → H} {w : World} {base : Nat} {spare : Nat → Bool} {held : Bool} {a : Option Addr} {len cap : Nat} {d : DataW H} {p : List MemPlace} {ts : List TypeId} {ds : List (DataW H)} (h : DataW.Trod enc Try.prog w base spare held 22 (.slice a len cap) d p) (hsz : (DataW.weightsEach Try.prog ts ds).all (· ≤ reachBytes) = true) {j : Nat} (ht : ts[j]? = some 22) (hd : ds[j]? = some d) : (len + 8) * 32 ≤ 140737488355328 := by
  obtain ⟨fuel, h⟩ := h
  rcases Go.Deep.open_slice evs_u h with ⟨h0, -⟩ | ⟨a', len', cap', m, n, D, Pl, h0, -, hl, -, hmm, hx, -⟩
  · simp [Value.cells] at h0
    omega
  · simp [Value.cells] at h0
    obtain ⟨rfl, rfl, rfl⟩ := h0
    cases hx
    have := sized_slice hsz ht hd evs_u
    rw [ev_bytes] at this
    simp only [List.length_map, List.length_range, reachBytes] at this
    omega
set_option maxRecDepth 100000 in
theorem racesl_lifted (os : Os) (started : os.Started) (H : Type) (enc : TypeId × Value → H) :
    ReturnsInHanded {} Try.checked os 5 .any (Rows.clocksRacesSpec.pre6 enc Try.prog Try.f5 Rows.clocksRacesRow.domain false) (Rows.clocksRacesSpec.post enc Try.prog Try.f5 false true false false) := by
  refine returnsInHanded_of_change_sized (C := Try.checked) own_knob started (by kernel_rfl) Try.func5
    (ChangeSpec.witness6 (enc := enc) (C := Try.checked) false ⟨#[], #[.slice none 0 0, .int .i64 0], []⟩ 8 (by kernel_rfl) (by kernel_rfl) (by kernel_rfl) (by kernel_rfl)) ?_
  intro W base args ds gs before hval0 hW hcnd hsz0 _
  have hval : ∀ (j : Nat) t v, Try.f5.params[j]? = some t → args[j]? = some v → Value.okWide Try.prog W .any base t v := hval0
  have hsz : (DataW.weightsEach Try.prog (Try.f5.params.toList ++ Rows.clocksRacesSpec.plain.varTypes Try.prog) (ds ++ gs)).all (· ≤ reachBytes) = true := hsz0
  have hW' := hW
  obtain ⟨p, q, hA0, hV, rfl, hfz, hnd⟩ := hW
  have hA : DataW.TrodAll enc Try.prog W 0 (fun _ => true) true Try.f5.params.toList args.toList ds p := hA0
  rw [Try.params5] at hA hval hsz
  obtain ⟨v0, v1, d0, d1, p0, p1, rfl, rfl, rfl, h0, h1⟩ := trodAll_two hA
  obtain ⟨rfl, rfl⟩ := trodVars_none hV
  clear hA0 hval0
  obtain ⟨a, len, cap, rfl⟩ := okWide_slice Try.underlying22 (hval 0 22 v0 rfl rfl)
  obtain ⟨i1, rfl, rfl, rfl, hw1⟩ := open_int Try.underlying3 (hval 1 3 v1 rfl rfl) h1
  have hbig := evs_sized h0 hsz (j := 0) rfl rfl
  obtain ⟨evs, rfl, hE, hl1, hl2, hwf⟩ := arg_evs h0
  simp only [List.append_nil] at hW'
  have hlt : ∀ x ∈ p0, x.block < W.heap.size := fun x hx => by simpa using hW'.lt x (by simpa using hx)
  refine (racesl_true a cap evs i1 W hE hl1 (by unfold maxLen at hl2; omega) (fun e he => (hwf e he).2.2) hbig).mono fun e W' ⟨he, hg⟩ => ?_
  subst he
  exact ⟨_, rfl, _, _, _, [], _, [], hW', trodAll_mk1 (shut_bool Try.underlying4 _), trodAll_mk2 (Below.trod laid_out (by kernel_rfl) (of_decide_eq_true (by kernel_rfl)) h0 hg hlt) (shut_int Try.underlying3 hw1), rfl, hg.frame _, fun h => by cases h⟩
theorem races_holds : Rows.ClocksRacesSaid :=
  OpenClaim.holds_of_wide 5 Try.f5 rfl rfl rfl rfl rfl rfl rfl ⟨rfl, rfl, rfl, rfl, rfl⟩ rfl rfl rfl rfl rfl (by kernel_rfl) Try.func5 (by kernel_rfl)
    (of_decide_eq_true (by kernel_rfl)) (by unfold Func.isWrapper; first | (rw [if_pos (by decide +kernel)]; kernel_rfl) | (rw [if_neg (by decide +kernel)]; exact ⟨rfl, rfl⟩))
    (fun os started H enc _ => racesl_lifted os started H enc)
#print axioms races_holds
end Go.Proofs.Ytdgdfpgekccibab
