import Derived.Test.YtdgdfpgekccibaaKO
import Derived.Test.YtdgdfpgekccibaaSB
import Derived.SizedLaws
/-! ClocksFree. -/
namespace Go.Proofs.Ytdgdfpgekccibaa
open Go Go.ChangeShapes Go.WideShapes Go.ChangeAt Go.RowKit
/-- own, as the laws use it, of a list of any length that can be. -/
theorem own_wide (a : Option Addr) (cap : Nat) (evs : List Ev) (w : World) (hE : EvsAt w a evs) (hl : (evs.length + 8) * 32 ≤ 140737488355328) : Calls Try.prog 13 #[.slice a evs.length cap] w fun e w' => Below w.heap.size w w' ∧ ∃ g c, e = .returned (.slice (some ⟨g, 0, none⟩) evs.length c) ∧ EvsAt w' (some ⟨g, 0, none⟩) evs ∧ evs.length ≤ c ∧ c ≤ 9223372036854775807 := by
  refine (own_any a cap evs w hE hl).mono ?_
  rintro e w' ⟨hB, g, c, rfl, hO⟩
  obtain ⟨h1, h2, h3, -, -⟩ := own_evs hO
  exact ⟨hB, g, c, rfl, h1, by omega, by unfold maxLen at h3; omega⟩
set_option maxHeartbeats 8000000 in
set_option maxRecDepth 100000 in
theorem free_true (a : Option Addr) (cap : Nat) (evs : List Ev) (clients : Int) (w : World) (hE : EvsAt w a evs) (hcap : evs.length ≤ cap) (hwf : ∀ e ∈ evs, I64 e.o ∧ I64 e.n) (hsz : (evs.length + 8) * 32 ≤ 140737488355328) :
    Calls Try.prog 6 #[.slice a evs.length cap, .int .i64 clients] w fun e w' => e = .returned (.bool true) ∧ Below w.heap.size w w' := by
  obtain ⟨n, hn⟩ : ∃ n, Hid (evs.length = n) := ⟨_, rfl⟩
  have o1 := hid_of (own_wide a cap evs w hE hsz)
  rw [hn.out] at hcap hsz o1 ⊢
  replace hE := hid_of hE
  replace hwf := hid_of hwf
  have hnum := hid_of num_any
  go_enter Try.func6, Try.ntmps6
  go_wp2_with fail
  refine o1.out.mono ?_
  clear o1
  rintro e W1 ⟨hB1, g1, c1, rfl, hE1, hc1, hc1'⟩
  have k1 := hid_of (races_any (some ⟨g1, 0, none⟩) c1 evs clients W1 hE1 (by rw [hn.out]; exact hc1) hc1' hwf.out)
  rw [hn.out] at k1
  clear hE1
  go_wp2_with fail
  refine k1.out.mono ?_
  clear k1
  rintro e W2 ⟨hB2, hpost⟩
  have hB02 : Hid (Below w.heap.size w W2) := hB1.trans (hB2.mono hB1.size)
  have hlv := hid_of (live_any W2)
  have hfin : Hid (∀ Z, Below W2.heap.size W2 Z → Below w.heap.size w Z) := fun Z hZ => hB02.out.trans (hZ.mono hB02.out.size)
  clear hB1 hB2
  rcases hpost with ⟨hne, rfl⟩ | ⟨h0, ov, rfl, hov⟩
  · have hne' : (chk evs clients != 0) = true := by simp [hne]
    by_cases hl : 200 < n
    · go_wp2_with fail
      refine hlv.out.mono ?_
      rintro e Z ⟨rfl, hZ⟩
      go_wp2_with fail
      exact bodyPost_ret (v := .bool true) (by simp [results, Try.results6, go_sem]) rfl ⟨rfl, hfin.out Z hZ⟩
    · go_wp2_with fail
      refine (hnum.out _ W2).mono ?_
      rintro e Z ⟨rfl, hz⟩
      obtain rfl : W2 = Z := hz.symm
      clear hz
      go_wp2_with fail
      refine hlv.out.mono ?_
      rintro e Z ⟨rfl, hZ⟩
      go_wp2_with fail
      exact bodyPost_ret (v := .bool true) (by simp [results, Try.results6, go_sem]) rfl ⟨rfl, hfin.out Z hZ⟩
  · obtain ⟨ao, co, rfl, hco, hcm2, -⟩ := ownsRow_form hov
    rw [hn.out] at hov hco ⊢
    obtain ⟨m, hm⟩ : ∃ m, Hid ((raceK evs n).length = m) := ⟨_, rfl⟩
    rw [hm.out] at hco ⊢
    unfold maxLen at hcm2
    replace h0 := hid_of h0
    clear hov
    by_cases hl : 200 < n
    · go_wp2_with fail
      refine hlv.out.mono ?_
      rintro e Z ⟨rfl, hZ⟩
      go_wp2_with fail
      exact bodyPost_ret (v := .bool true) (by simp [results, Try.results6, go_sem]) rfl ⟨rfl, hfin.out Z hZ⟩
    by_cases hm0 : 0 < m
    · go_wp2_with fail
      refine (hnum.out _ W2).mono ?_
      rintro e Z ⟨rfl, hz⟩
      obtain rfl : W2 = Z := hz.symm
      clear hz
      go_wp2_with fail
      refine hlv.out.mono ?_
      rintro e Z ⟨rfl, hZ⟩
      go_wp2_with fail
      exact bodyPost_ret (v := .bool true) (by simp [results, Try.results6, go_sem]) rfl ⟨rfl, hfin.out Z hZ⟩
    obtain rfl : m = 0 := by omega
    have hr0 : Hid (raceK evs evs.length = []) := by unfold Hid; rw [hn.out]; exact List.eq_nil_of_length_eq_zero hm.out
    clear hm hm0
    have hl200 : n ≤ 200 := by omega
    go_wp2_with fail
    refine (hnum.out _ W2).mono ?_
    rintro e Z ⟨rfl, hz⟩
    obtain rfl : W2 = Z := hz.symm
    clear hz hlv hnum
    go_wp2_with fail
    go_loopw [7] (fun j wr => ∃ q : Nat, j = .int .i64 q ∧ q ≤ n ∧ Below W2.heap.size W2 wr) (fun j _ => n - (intOf j).toNat)
    case atStart => exact ⟨0, rfl, Nat.zero_le _, Below.refl _ W2⟩
    case round =>
      obtain ⟨q, rfl, hqn, hBq⟩ := hrel
      by_cases hq : q < n
      · obtain ⟨f, hf⟩ : ∃ f, Hid (evs[q]? = some f) := ⟨evs[q]'(by have := hn.out; omega), List.getElem?_eq_getElem (by have := hn.out; omega)⟩
        replace hBq := hid_of hBq
        go_wp2_with fail
        go_loopw [8] (fun i wr => ∃ r : Nat, i = .int .i64 r ∧ r ≤ q ∧ Below W2.heap.size W2 wr) (fun i _ => q - (intOf i).toNat)
        case atStart => exact ⟨0, rfl, Nat.zero_le _, hBq.out⟩
        case round =>
          obtain ⟨r, rfl, hrq, hBr⟩ := hrel
          by_cases hr : r < q
          · obtain ⟨e, he⟩ : ∃ e, Hid (evs[r]? = some e) := ⟨evs[r]'(by have := hn.out; omega), List.getElem?_eq_getElem (by have := hn.out; omega)⟩
            have hBw := hfin.out _ hBr
            obtain ⟨b, o, rfl, hb, x0, x1, x2, x3⟩ := (hE.out.keep hBw) q _ hf.out
            obtain ⟨b', o', hbo, hb', y0, y1, y2, y3⟩ := (hE.out.keep hBw) r _ he.out
            cases hbo
            have hbef : Hid (e.o = f.o → e.n = f.n → ((e.k = 9 ∧ f.k = 8) ∨ (e.k = 8 ∧ f.k = 9)) → beforeB evs clients r q = true) := fun h1 h2 h3 => free_before h0.out hr0.out hr he.out hf.out h1 h2 h3
            obtain ⟨fc, fk, fo, fn⟩ := f
            obtain ⟨ec, ek, eo, en⟩ := e
            simp only at x0 x1 x2 x3 y0 y1 y2 y3 hbef
            obtain ⟨V, hV⟩ : ∃ V, Hid ((wr.alloc (.cells #[.int .i64 ek, .int .i64 eo, .int .i64 en] 28)).alloc (.cells #[.int .i64 fk, .int .i64 fo, .int .i64 fn] 28) = V) := ⟨_, rfl⟩
            have zV := heap_alloc2_old wr (.cells #[.int .i64 ek, .int .i64 eo, .int .i64 en] 28) (.cells #[.int .i64 fk, .int .i64 fo, .int .i64 fn] 28)
            have zV' := heap_alloc2_new wr (.cells #[.int .i64 ek, .int .i64 eo, .int .i64 en] 28) (.cells #[.int .i64 fk, .int .i64 fo, .int .i64 fn] 28)
            have hBv : Below wr.heap.size wr V := by rw [← hV.out]; exact ((Below.refl _ wr).alloc (Nat.le_refl _) _).alloc (by simp) _
            have hB1 : Below wr.heap.size wr (wr.alloc (.cells #[.int .i64 ek, .int .i64 eo, .int .i64 en] 28)) := (Below.refl _ wr).alloc (Nat.le_refl _) _
            have s1 := stay hB1 x1
            have s2 := stay hB1 x2
            have s3 := stay hB1 x3
            rw [hV.out] at zV zV'
            have v0 : V.cell? ⟨wr.heap.size, 0, none⟩ = some (.int .i64 ek) := by simp [World.cell?, zV]
            have v1 : V.cell? ⟨wr.heap.size, 1, none⟩ = some (.int .i64 eo) := by simp [World.cell?, zV]
            have v2 : V.cell? ⟨wr.heap.size, 2, none⟩ = some (.int .i64 en) := by simp [World.cell?, zV]
            have u0 : V.cell? ⟨wr.heap.size + 1, 0, none⟩ = some (.int .i64 fk) := by simp [World.cell?, zV']
            have u1 : V.cell? ⟨wr.heap.size + 1, 1, none⟩ = some (.int .i64 fo) := by simp [World.cell?, zV']
            have u2 : V.cell? ⟨wr.heap.size + 1, 2, none⟩ = some (.int .i64 fn) := by simp [World.cell?, zV']
            have hB2v : Hid (Below W2.heap.size W2 V) := hBr.trans (hBv.mono hBr.size)
            have hEv : Hid (EvsAt V (some ⟨b, o, none⟩) evs) := (hE.out.keep hBw).keep hBv
            have hrel' : Hid (∃ r' : Nat, Value.int .i64 ((r : Int) + 1) = .int .i64 r' ∧ r' ≤ q ∧ Below W2.heap.size W2 V) := ⟨r + 1, by go_num, by omega, hB2v.out⟩
            clear zV zV' hBv hB1 x0 y0 hBr hBw
            by_cases c1 : eo = fo
            · by_cases c2 : en = fn
              · by_cases c3 : (ek = 9 ∧ fk = 8) ∨ (ek = 8 ∧ fk = 9)
                · have hbt := hbef.out c1 c2 c3
                  subst c1 c2
                  have o2 := own_wide (some ⟨b, o, none⟩) cap evs V hEv.out (by rw [hn.out]; exact hsz)
                  rw [hn.out] at o2
                  replace o2 := hid_of o2
                  replace hbt := hid_of hbt
                  rcases c3 with ⟨rfl, rfl⟩ | ⟨rfl, rfl⟩
                  · go_wp2_with (rw [hV.out])
                    refine o2.out.mono ?_
                    rintro e V1 ⟨hBo, g3, c3, rfl, hE3, hc3, hc3'⟩
                    have k3 := before_any (some ⟨g3, 0, none⟩) c3 evs clients r q V1 hE3 (by rw [hn.out]; exact hc3) hc3' hwf.out
                    rw [hn.out, hbt.out] at k3
                    replace k3 := hid_of k3
                    clear o2 hE3
                    go_wp2_with fail
                    refine k3.out.mono ?_
                    rintro e V2 ⟨rfl, hB3⟩
                    have hB4 : Below W2.heap.size W2 V2 := (hB2v.out.trans (hBo.mono hB2v.out.size)).trans (hB3.mono (Nat.le_trans hB2v.out.size hBo.size))
                    have hrel2 : Hid (∃ r' : Nat, Value.int .i64 ((r : Int) + 1) = .int .i64 r' ∧ r' ≤ q ∧ Below W2.heap.size W2 V2) := ⟨r + 1, by go_num, by omega, hB4⟩
                    clear k3 hB3 hBo hB4
                    go_wp2_with fail
                    exact ⟨hrel2.out, by simp [intOf]; omega⟩
                  · go_wp2_with (rw [hV.out])
                    refine o2.out.mono ?_
                    rintro e V1 ⟨hBo, g3, c3, rfl, hE3, hc3, hc3'⟩
                    have k3 := before_any (some ⟨g3, 0, none⟩) c3 evs clients r q V1 hE3 (by rw [hn.out]; exact hc3) hc3' hwf.out
                    rw [hn.out, hbt.out] at k3
                    replace k3 := hid_of k3
                    clear o2 hE3
                    go_wp2_with fail
                    refine k3.out.mono ?_
                    rintro e V2 ⟨rfl, hB3⟩
                    have hB4 : Below W2.heap.size W2 V2 := (hB2v.out.trans (hBo.mono hB2v.out.size)).trans (hB3.mono (Nat.le_trans hB2v.out.size hBo.size))
                    have hrel2 : Hid (∃ r' : Nat, Value.int .i64 ((r : Int) + 1) = .int .i64 r' ∧ r' ≤ q ∧ Below W2.heap.size W2 V2) := ⟨r + 1, by go_num, by omega, hB4⟩
                    clear k3 hB3 hBo hB4
                    go_wp2_with fail
                    exact ⟨hrel2.out, by simp [intOf]; omega⟩
                · subst c1 c2
                  by_cases k9 : ek = 9
                  · subst k9
                    have d1 : (fk == 8) = false := beq_eq_false_iff_ne.2 (fun e => c3 (.inl ⟨rfl, e⟩))
                    have d1' : ¬ fk = 8 := fun e => c3 (.inl ⟨rfl, e⟩)
                    clear c3
                    go_wp2_with (rw [hV.out])
                    exact ⟨hrel'.out, by simp [intOf]; omega⟩
                  · have d1 : decide (ek = 9) = false := decide_eq_false k9
                    by_cases k8 : ek = 8
                    · subst k8
                      have d2 : (fk == 9) = false := beq_eq_false_iff_ne.2 (fun e => c3 (.inr ⟨rfl, e⟩))
                      have d2' : ¬ fk = 9 := fun e => c3 (.inr ⟨rfl, e⟩)
                      clear c3
                      go_wp2_with (rw [hV.out])
                      exact ⟨hrel'.out, by simp [intOf]; omega⟩
                    · have d2 : decide (ek = 8) = false := decide_eq_false k8
                      clear c3
                      go_wp2_with (rw [hV.out])
                      exact ⟨hrel'.out, by simp [intOf]; omega⟩
              · subst c1
                have d1 : decide (en = fn) = false := decide_eq_false c2
                go_wp2_with (rw [hV.out])
                exact ⟨hrel'.out, by simp [intOf]; omega⟩
            · have d1 : decide (eo = fo) = false := decide_eq_false c1
              go_wp2_with (rw [hV.out])
              exact ⟨hrel'.out, by simp [intOf]; omega⟩
          · obtain rfl : r = q := by omega
            go_wp2_with fail
            go_roundw
            case rel => exact ⟨r + 1, by go_num, by omega, hBr⟩
            case measure => simp [intOf]; omega
      · obtain rfl : q = n := by omega
        have hlv := hid_of (live_any wr)
        have hBw := hid_of (hfin.out _ hBq)
        clear hBq
        go_wp2_with fail
        refine hlv.out.mono ?_
        rintro e Z ⟨rfl, hZ⟩
        go_wp2_with fail
        exact bodyPost_ret (v := .bool true) (by simp [results, Try.results6, go_sem]) rfl ⟨rfl, hBw.out.trans (hZ.mono hBw.out.size)⟩
end Go.Proofs.Ytdgdfpgekccibaa
