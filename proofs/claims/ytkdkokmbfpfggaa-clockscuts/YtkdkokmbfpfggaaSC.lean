import Derived.Test.YtkdkokmbfpfggaaSB
import Derived.Test.YtkdkokmbfpfggaaPU
import Derived.Test.YtkdkokmbfpfggaaSM
/-! ClocksCuts. -/
namespace Go.Proofs.Ytkdkokmbfpfggaa
open Go Go.ChangeShapes Go.WideShapes Go.ChangeAt Go.RowKit
/-- own, as the laws use it. -/
theorem own_use (a : Option Addr) (cap : Nat) (evs : List Ev) (w : World) (hE : EvsAt w a evs) (hl : evs.length ≤ 200) : Calls Try.prog 13 #[.slice a evs.length cap] w fun e w' => Below w.heap.size w w' ∧ ∃ g c, e = .returned (.slice (some ⟨g, 0, none⟩) evs.length c) ∧ EvsAt w' (some ⟨g, 0, none⟩) evs ∧ evs.length ≤ c ∧ c ≤ 9223372036854775807 := by
  refine (own_any a cap evs w hE (by omega)).mono ?_
  rintro e w' ⟨hB, g, c, rfl, hO⟩
  obtain ⟨h1, h2, h3, -, -⟩ := own_evs hO
  exact ⟨hB, g, c, rfl, h1, by omega, by unfold maxLen at h3; omega⟩
theorem flatR_get : (l : List (Nat × Nat)) → (i : Nat) → (flatR l)[i * 2]? = (l[i]?).map (fun u => Value.int .i64 (u.1 : Nat)) ∧ (flatR l)[i * 2 + 1]? = (l[i]?).map (fun u => Value.int .i64 (u.2 : Nat))
  | [], i => by simp [flatR]
  | u :: l, 0 => by simp [flatR]
  | u :: l, i + 1 => by
    have := flatR_get l i
    unfold flatR at this ⊢
    rw [show (i + 1) * 2 = i * 2 + 2 from by omega]
    simpa using this
theorem race_cells {w : World} {lo : Nat} {a : Option Addr} {cap : Nat} {l : List (Nat × Nat)} (h : w.ownsRow lo 45 2 (.slice a l.length cap) l.length (flatR l)) {i : Nat} {u : Nat × Nat} (hu : l[i]? = some u) : ∃ g, a = some ⟨g, 0, none⟩ ∧ w.cell? ⟨g, i * 2, none⟩ = some (.int .i64 (u.1 : Nat)) ∧ w.cell? ⟨g, i * 2 + 1, none⟩ = some (.int .i64 (u.2 : Nat)) := by
  have hi := (List.getElem?_eq_some_iff.1 hu).1
  obtain ⟨a', c', e, _, _, h3⟩ := ownsRow_form h
  cases e
  obtain ⟨g, rfl⟩ := h3 (by omega)
  obtain ⟨f1, f2⟩ := flatR_get l i
  rw [hu] at f1 f2
  exact ⟨g, rfl, (h.cellAt _ (by omega)).trans f1, (h.cellAt _ (by omega)).trans f2⟩
theorem ownsRow_nil {w : World} {lo : Nat} {e : TypeId} {size n cap : Nat} {xs : List Value} (h : w.ownsRow lo e size (.slice none n cap) n xs) : n = 0 ∧ cap = 0 := by
  rcases h.2 with ⟨h1, h2⟩ | ⟨g, c, cur, h1, _⟩
  · cases h1; exact ⟨rfl, rfl⟩
  · cases h1
set_option maxHeartbeats 4000000 in
set_option maxRecDepth 100000 in
theorem cuts_true (a : Option Addr) (cap : Nat) (evs : List Ev) (clients t : Int) (w : World) (hE : EvsAt w a evs) (hcap : evs.length ≤ cap) (hcm : cap ≤ 9223372036854775807) (hwf : ∀ e ∈ evs, I64 e.o ∧ I64 e.n) (hnil : a = none → cap = 0) :
    Calls Try.prog 7 #[.slice a evs.length cap, .int .i64 clients, .int .i64 t] w fun e w' => e = .returned (.bool true) ∧ Below w.heap.size w w' := by
  by_cases hl : 200 < evs.length
  · go_enter Try.func7, Try.ntmps7
    go_wp2_with fail
    exact bodyPost_ret (v := .bool true) (by simp [results, Try.results7, go_sem]) rfl ⟨rfl, Below.refl _ w⟩
  by_cases h1 : t < 0
  · go_enter Try.func7, Try.ntmps7
    go_wp2_with fail
    exact bodyPost_ret (v := .bool true) (by simp [results, Try.results7, go_sem]) rfl ⟨rfl, Below.refl _ w⟩
  by_cases h2 : (evs.length : Int) < t
  · go_enter Try.func7, Try.ntmps7
    go_wp2_with fail
    exact bodyPost_ret (v := .bool true) (by simp [results, Try.results7, go_sem]) rfl ⟨rfl, Below.refl _ w⟩
  obtain ⟨m, rfl⟩ := Int.eq_ofNat_of_zero_le (a := t) (by omega)
  have hmn : m ≤ evs.length := by omega
  obtain ⟨p, hp⟩ : ∃ p, Hid (evs.take m = p) := ⟨_, rfl⟩
  have hpl : Hid (p.length = m) := by unfold Hid; rw [← hp.out, List.length_take]; omega
  have hwp : Hid (∀ e ∈ p, I64 e.o ∧ I64 e.n) := fun e he => hwf e (by rw [← hp.out] at he; exact List.mem_of_mem_take he)
  obtain ⟨n, hn⟩ : ∃ n, Hid (evs.length = n) := ⟨_, rfl⟩
  have hl' : evs.length ≤ 200 := by omega
  have o1 := hid_of (own_use a cap evs w hE hl')
  rw [hn.out] at hcap hl h2 hmn o1 ⊢
  replace hE := hid_of hE
  replace hwf := hid_of hwf
  replace hl' := hid_of hl'
  go_enter Try.func7, Try.ntmps7
  go_wp2_with fail
  refine o1.out.mono ?_
  clear o1
  rintro e W1 ⟨hB1, g1, c1, rfl, hE1, hc1, hc1'⟩
  have k1 := hid_of (clocks_any (some ⟨g1, 0, none⟩) c1 evs clients W1 hE1 (by rw [hn.out]; exact hc1) (by rw [hn.out]; omega) hwf.out)
  rw [hn.out] at k1
  clear hE1
  go_wp2_with fail
  refine k1.out.mono ?_
  clear k1
  rintro e W2 ⟨hB2, hpost2⟩
  have hB02 : Below w.heap.size w W2 := hB1.trans (hB2.mono hB1.size)
  have o2 := hid_of (own_use a cap evs W2 (hE.out.keep hB02) hl'.out)
  rw [hn.out] at o2
  by_cases h0 : chk evs clients = 0
  · obtain ⟨g, G, rfl, hC⟩ : ∃ g G, e = .returned (.tuple #[.slice (some ⟨g, 0, none⟩) n n, .int .i64 0]) ∧ ClksAt W2 W1.heap.size g n clients.toNat evs G := by
      rcases hpost2 with ⟨hne, -⟩ | ⟨-, g, G, h1, h2⟩
      · exact absurd h0 hne
      · rw [hn.out] at h1 h2; exact ⟨g, G, h1, h2⟩
    replace hC := hid_of hC
    replace hB02 := hid_of hB02
    clear hB1 hB2 hpost2
    go_wp2_with fail
    refine o2.out.mono ?_
    clear o2
    rintro e W3 ⟨hB3, g3, c3, rfl, hE3, hc3, hc3'⟩
    have k3 := hid_of (races_any (some ⟨g3, 0, none⟩) c3 evs clients W3 hE3 (by rw [hn.out]; exact hc3) hc3' hwf.out)
    rw [hn.out] at k3
    clear hE3
    go_wp2_with fail
    refine k3.out.mono ?_
    clear k3
    rintro e W4 ⟨hB4, ⟨hne, -⟩ | ⟨-, ov, rfl, hov⟩⟩
    · exact absurd h0 hne
    rw [hn.out] at hov
    have hB24 : Below W2.heap.size W2 W4 := hB3.trans (hB4.mono hB3.size)
    have hB04 : Hid (Below w.heap.size w W4) := hB02.out.trans (hB24.mono hB02.out.size)
    obtain ⟨tl, hpre0, htl⟩ := raceK_more evs m (n - m)
    have hpre : Hid (raceK evs n = raceK evs m ++ tl) := by unfold Hid; rw [← hpre0]; congr 1; omega
    replace htl := hid_of htl
    obtain ⟨sL, hsl⟩ : ∃ sL, Hid ((raceK evs m).length = sL) := ⟨_, rfl⟩
    obtain ⟨rL, hrl⟩ : ∃ rL, Hid ((raceK evs n).length = rL) := ⟨_, rfl⟩
    have hsr : sL ≤ rL := by
      have h1 := hrl.out
      rw [hpre.out, List.length_append, hsl.out] at h1
      omega
    have hcp : Hid (chk p clients = 0) := by unfold Hid; rw [← hp.out]; exact chk_take h0 m
    have h16 : Hid (clients.toNat ≤ 16) := by
      have := (chk_ok h0).2.1
      unfold Hid
      omega
    have hov4 : Hid (∀ i u, (raceK evs n)[i]? = some u → ∃ g, (match ov with | .slice a _ _ => a | _ => none) = some ⟨g, 0, none⟩ ∧ W4.cell? ⟨g, i * 2, none⟩ = some (.int .i64 (u.1 : Nat)) ∧ W4.cell? ⟨g, i * 2 + 1, none⟩ = some (.int .i64 (u.2 : Nat))) := by
      obtain ⟨a4, cap4, rfl, -⟩ := ownsRow_form hov
      exact fun i u hu => race_cells hov hu
    replace hB24 := hid_of hB24
    clear hB3 hB4 hpre0
    rcases hov.2 with ⟨rfl, hl0⟩ | ⟨gr, cr, cur, rfl, -, -, hle, hmx, -⟩
    · rw [hrl.out] at hl0
      subst hl0
      obtain rfl : sL = 0 := by omega
      simp only at hov4
      clear hov
      cases a with
      | none =>
        obtain rfl := hnil rfl
        obtain rfl : n = 0 := by omega
        obtain rfl : m = 0 := by omega
        have hEp := (hE.out.keep hB04.out).take 0
        rw [hp.out] at hEp
        have o5 := hid_of (own_use none 0 p W4 hEp (by rw [hpl.out]; omega))
        rw [hpl.out] at o5
        go_wp2_with fail
        refine o5.out.mono ?_
        clear o5 hEp
        rintro e W5 ⟨hB5, g5, c5, rfl, hE5, hc5, hc5'⟩
        have k5 := hid_of (clocks_any (some ⟨g5, 0, none⟩) c5 p clients W5 hE5 (by rw [hpl.out]; exact hc5) (by rw [hpl.out]; omega) hwp.out)
        rw [hpl.out] at k5
        clear hE5
        go_wp2_with fail
        refine k5.out.mono ?_
        clear k5
        rintro e W6 ⟨hB6, ⟨hne, -⟩ | ⟨-, g6, G6, rfl, hC6⟩⟩
        · exact absurd hcp.out hne
        rw [hpl.out] at hC6 ⊢
        have hB46 := hB5.trans (hB6.mono hB5.size)
        have hB06 : Hid (Below w.heap.size w W6) := hB04.out.trans (hB46.mono hB04.out.size)
        have hEp6 := (hE.out.keep hB06.out).take 0
        rw [hp.out] at hEp6
        have o7 := hid_of (own_use none 0 p W6 hEp6 (by rw [hpl.out]; omega))
        rw [hpl.out] at o7
        replace hC6 := hid_of hC6
        replace hB46 := hid_of hB46
        clear hB5 hB6 hEp6
        go_wp2_with fail
        refine o7.out.mono ?_
        clear o7
        rintro e W7 ⟨hB7, g7, c7, rfl, hE7, hc7, hc7'⟩
        have k7 := hid_of (races_any (some ⟨g7, 0, none⟩) c7 p clients W7 hE7 (by rw [hpl.out]; exact hc7) hc7' hwp.out)
        rw [hpl.out] at k7
        clear hE7
        go_wp2_with fail
        refine k7.out.mono ?_
        clear k7
        rintro e W8 ⟨hB8, ⟨hne, -⟩ | ⟨-, ov8, rfl, hov8⟩⟩
        · exact absurd hcp.out hne
        rw [hpl.out, ← hp.out, raceK_take evs 0 0 (Nat.le_refl _)] at hov8
        obtain ⟨a8, cap8, rfl, u1, u2, -⟩ := ownsRow_form hov8
        rw [hsl.out] at u1 ⊢
        have hB68 := hB7.trans (hB8.mono hB7.size)
        have hB48 : Below W4.heap.size W4 W8 := hB46.out.trans (hB68.mono hB46.out.size)
        have hB28 : Below W2.heap.size W2 W8 := hB24.out.trans (hB48.mono hB24.out.size)
        have hB08 : Hid (Below w.heap.size w W8) := hB06.out.trans (hB68.mono hB06.out.size)
        have hsame := hid_of (same_true (some ⟨g, 0, none⟩) (some ⟨g6, 0, none⟩) 0 0 0 clients.toNat G G6 (fun i k => ((clkAt evs i k : Nat) : Int)) W8 (by omega) (Nat.le_refl _) ⟨by omega, by omega⟩ (by have := h16.out; omega)
          (fun i hi => ⟨g, rfl, stay hB28 (hC.out.row.cell (by omega))⟩) (fun i hi => ⟨g6, rfl, stay hB68 (hC6.out.row.cell hi)⟩)
          (fun i k hi hk => stay hB28 ((hC.out.each i (by omega)).2.2.cell hk)) (fun i k hi hk => by
            have hh := stay hB68 ((hC6.out.each i hi).2.2.cell hk)
            rw [← hp.out, clkAt_take evs hi] at hh
            exact hh))
        have hcm8 : cap8 ≤ 9223372036854775807 := by unfold maxLen at u2; omega
        have hra := hid_of (fun (W9 : World) (hB9 : Below W8.heap.size W8 W9) => races_true none a8 0 0 cap8 (fun i => (((raceK evs 0)[i]?.getD (0, 0)).1 : Int)) (fun i => (((raceK evs 0)[i]?.getD (0, 0)).2 : Int)) W9 (by omega) u1 ⟨by omega, hcm8⟩
          (fun i hi => by
            obtain ⟨u, hu⟩ : ∃ u, (raceK evs 0)[i]? = some u := ⟨_, List.getElem?_eq_getElem (by rw [hsl.out]; exact hi)⟩
            obtain ⟨gg, e1, e2, e3⟩ := hov4.out i u (by rw [hpre.out, List.getElem?_append_left (by rw [hsl.out]; exact hi)]; exact hu)
            rw [hu]
            exact ⟨gg, e1, stay hB9 (stay hB48 e2), stay hB9 (stay hB48 e3)⟩)
          (fun i hi => by
            obtain ⟨u, hu⟩ : ∃ u, (raceK evs 0)[i]? = some u := ⟨_, List.getElem?_eq_getElem (by rw [hsl.out]; exact hi)⟩
            obtain ⟨gg, e1, e2, e3⟩ := race_cells hov8 hu
            rw [hu]
            exact ⟨gg, e1, stay hB9 e2, stay hB9 e3⟩))
        replace hB48 := hid_of hB48
        replace hB28 := hid_of hB28
        replace hov8 := hid_of hov8
        clear hB7 hB8 hB68 u2
        have hnu := hid_of (num_any 0 W8)
        go_wp2_with fail
        refine hnu.out.mono ?_
        rintro e w' ⟨rfl, hw'⟩
        obtain rfl : W8 = w' := hw'.symm
        clear hw'
        go_wp2_with fail
        refine hnu.out.mono ?_
        rintro e w' ⟨rfl, hw'⟩
        obtain rfl : W8 = w' := hw'.symm
        clear hw' hnu
        go_wp2_with fail
        refine hsame.out.mono ?_
        rintro e W9 ⟨rfl, hB9⟩
        have hr9 := hid_of (hra.out W9 hB9)
        clear hsame hra
        replace hB9 := hid_of hB9
        go_wp2_with fail
        refine hr9.out.mono ?_
        rintro e W10 ⟨rfl, hB10⟩
        clear hr9
        have hB910 : Below W8.heap.size W8 W10 := hB9.out.trans (hB10.mono hB9.out.size)
        have hB010 : Hid (Below w.heap.size w W10) := hB08.out.trans (hB910.mono hB08.out.size)
        have hlv := hid_of (live_any W10)
        have hend : Hid (∀ W11, Below W10.heap.size W10 W11 → Below w.heap.size w W11) := fun W11 h => hB010.out.trans (h.mono hB010.out.size)
        clear hB10
        go_wp2_with fail
        refine hlv.out.mono ?_
        rintro e W11 ⟨rfl, hB11⟩
        go_wp2_with fail
        exact bodyPost_ret (v := .bool true) (by simp [results, Try.results7, go_sem]) rfl ⟨rfl, hend.out _ hB11⟩
      | some ad =>
        have hEp := (hE.out.keep hB04.out).take m
        rw [hp.out] at hEp
        have o5 := hid_of (own_use (some ad) cap p W4 hEp (by rw [hpl.out]; omega))
        rw [hpl.out] at o5
        go_wp2_with fail
        refine o5.out.mono ?_
        clear o5 hEp
        rintro e W5 ⟨hB5, g5, c5, rfl, hE5, hc5, hc5'⟩
        have k5 := hid_of (clocks_any (some ⟨g5, 0, none⟩) c5 p clients W5 hE5 (by rw [hpl.out]; exact hc5) (by rw [hpl.out]; omega) hwp.out)
        rw [hpl.out] at k5
        clear hE5
        go_wp2_with fail
        refine k5.out.mono ?_
        clear k5
        rintro e W6 ⟨hB6, ⟨hne, -⟩ | ⟨-, g6, G6, rfl, hC6⟩⟩
        · exact absurd hcp.out hne
        rw [hpl.out] at hC6 ⊢
        have hB46 := hB5.trans (hB6.mono hB5.size)
        have hB06 : Hid (Below w.heap.size w W6) := hB04.out.trans (hB46.mono hB04.out.size)
        have hEp6 := (hE.out.keep hB06.out).take m
        rw [hp.out] at hEp6
        have o7 := hid_of (own_use (some ad) cap p W6 hEp6 (by rw [hpl.out]; omega))
        rw [hpl.out] at o7
        replace hC6 := hid_of hC6
        replace hB46 := hid_of hB46
        clear hB5 hB6 hEp6
        go_wp2_with fail
        refine o7.out.mono ?_
        clear o7
        rintro e W7 ⟨hB7, g7, c7, rfl, hE7, hc7, hc7'⟩
        have k7 := hid_of (races_any (some ⟨g7, 0, none⟩) c7 p clients W7 hE7 (by rw [hpl.out]; exact hc7) hc7' hwp.out)
        rw [hpl.out] at k7
        clear hE7
        go_wp2_with fail
        refine k7.out.mono ?_
        clear k7
        rintro e W8 ⟨hB8, ⟨hne, -⟩ | ⟨-, ov8, rfl, hov8⟩⟩
        · exact absurd hcp.out hne
        rw [hpl.out, ← hp.out, raceK_take evs m m (Nat.le_refl _)] at hov8
        obtain ⟨a8, cap8, rfl, u1, u2, -⟩ := ownsRow_form hov8
        rw [hsl.out] at u1 ⊢
        have hB68 := hB7.trans (hB8.mono hB7.size)
        have hB48 : Below W4.heap.size W4 W8 := hB46.out.trans (hB68.mono hB46.out.size)
        have hB28 : Below W2.heap.size W2 W8 := hB24.out.trans (hB48.mono hB24.out.size)
        have hB08 : Hid (Below w.heap.size w W8) := hB06.out.trans (hB68.mono hB06.out.size)
        have hsame := hid_of (same_true (some ⟨g, 0, none⟩) (some ⟨g6, 0, none⟩) m n m clients.toNat G G6 (fun i k => ((clkAt evs i k : Nat) : Int)) W8 (by omega) (Nat.le_refl _) ⟨by omega, by omega⟩ (by have := h16.out; omega)
          (fun i hi => ⟨g, rfl, stay hB28 (hC.out.row.cell (by omega))⟩) (fun i hi => ⟨g6, rfl, stay hB68 (hC6.out.row.cell hi)⟩)
          (fun i k hi hk => stay hB28 ((hC.out.each i (by omega)).2.2.cell hk)) (fun i k hi hk => by
            have hh := stay hB68 ((hC6.out.each i hi).2.2.cell hk)
            rw [← hp.out, clkAt_take evs hi] at hh
            exact hh))
        have hcm8 : cap8 ≤ 9223372036854775807 := by unfold maxLen at u2; omega
        have hra := hid_of (fun (W9 : World) (hB9 : Below W8.heap.size W8 W9) => races_true none a8 0 0 cap8 (fun i => (((raceK evs m)[i]?.getD (0, 0)).1 : Int)) (fun i => (((raceK evs m)[i]?.getD (0, 0)).2 : Int)) W9 (by omega) u1 ⟨by omega, hcm8⟩
          (fun i hi => by
            obtain ⟨u, hu⟩ : ∃ u, (raceK evs m)[i]? = some u := ⟨_, List.getElem?_eq_getElem (by rw [hsl.out]; exact hi)⟩
            obtain ⟨gg, e1, e2, e3⟩ := hov4.out i u (by rw [hpre.out, List.getElem?_append_left (by rw [hsl.out]; exact hi)]; exact hu)
            rw [hu]
            exact ⟨gg, e1, stay hB9 (stay hB48 e2), stay hB9 (stay hB48 e3)⟩)
          (fun i hi => by
            obtain ⟨u, hu⟩ : ∃ u, (raceK evs m)[i]? = some u := ⟨_, List.getElem?_eq_getElem (by rw [hsl.out]; exact hi)⟩
            obtain ⟨gg, e1, e2, e3⟩ := race_cells hov8 hu
            rw [hu]
            exact ⟨gg, e1, stay hB9 e2, stay hB9 e3⟩))
        replace hB48 := hid_of hB48
        replace hB28 := hid_of hB28
        replace hov8 := hid_of hov8
        clear hB7 hB8 hB68 u2
        have hnu := hid_of (num_any 0 W8)
        go_wp2_with fail
        refine hnu.out.mono ?_
        rintro e w' ⟨rfl, hw'⟩
        obtain rfl : W8 = w' := hw'.symm
        clear hw'
        go_wp2_with fail
        refine hnu.out.mono ?_
        rintro e w' ⟨rfl, hw'⟩
        obtain rfl : W8 = w' := hw'.symm
        clear hw' hnu
        go_wp2_with fail
        refine hsame.out.mono ?_
        rintro e W9 ⟨rfl, hB9⟩
        have hr9 := hid_of (hra.out W9 hB9)
        clear hsame hra
        replace hB9 := hid_of hB9
        go_wp2_with fail
        refine hr9.out.mono ?_
        rintro e W10 ⟨rfl, hB10⟩
        clear hr9
        have hB910 : Below W8.heap.size W8 W10 := hB9.out.trans (hB10.mono hB9.out.size)
        have hB010 : Hid (Below w.heap.size w W10) := hB08.out.trans (hB910.mono hB08.out.size)
        have hlv := hid_of (live_any W10)
        have hend : Hid (∀ W11, Below W10.heap.size W10 W11 → Below w.heap.size w W11) := fun W11 h => hB010.out.trans (h.mono hB010.out.size)
        clear hB10
        go_wp2_with fail
        refine hlv.out.mono ?_
        rintro e W11 ⟨rfl, hB11⟩
        go_wp2_with fail
        exact bodyPost_ret (v := .bool true) (by simp [results, Try.results7, go_sem]) rfl ⟨rfl, hend.out _ hB11⟩
    · rw [hrl.out] at hle ⊢
      have hcr : cr ≤ 9223372036854775807 := by unfold maxLen at hmx; omega
      simp only at hov4
      clear hov hmx
      cases a with
      | none =>
        obtain rfl := hnil rfl
        obtain rfl : n = 0 := by omega
        obtain rfl : m = 0 := by omega
        obtain rfl : 0 = rL := hrl.out
        obtain rfl : sL = 0 := by omega
        have hEp := (hE.out.keep hB04.out).take 0
        rw [hp.out] at hEp
        have o5 := hid_of (own_use none 0 p W4 hEp (by rw [hpl.out]; omega))
        rw [hpl.out] at o5
        go_wp2_with fail
        refine o5.out.mono ?_
        clear o5 hEp
        rintro e W5 ⟨hB5, g5, c5, rfl, hE5, hc5, hc5'⟩
        have k5 := hid_of (clocks_any (some ⟨g5, 0, none⟩) c5 p clients W5 hE5 (by rw [hpl.out]; exact hc5) (by rw [hpl.out]; omega) hwp.out)
        rw [hpl.out] at k5
        clear hE5
        go_wp2_with fail
        refine k5.out.mono ?_
        clear k5
        rintro e W6 ⟨hB6, ⟨hne, -⟩ | ⟨-, g6, G6, rfl, hC6⟩⟩
        · exact absurd hcp.out hne
        rw [hpl.out] at hC6 ⊢
        have hB46 := hB5.trans (hB6.mono hB5.size)
        have hB06 : Hid (Below w.heap.size w W6) := hB04.out.trans (hB46.mono hB04.out.size)
        have hEp6 := (hE.out.keep hB06.out).take 0
        rw [hp.out] at hEp6
        have o7 := hid_of (own_use none 0 p W6 hEp6 (by rw [hpl.out]; omega))
        rw [hpl.out] at o7
        replace hC6 := hid_of hC6
        replace hB46 := hid_of hB46
        clear hB5 hB6 hEp6
        go_wp2_with fail
        refine o7.out.mono ?_
        clear o7
        rintro e W7 ⟨hB7, g7, c7, rfl, hE7, hc7, hc7'⟩
        have k7 := hid_of (races_any (some ⟨g7, 0, none⟩) c7 p clients W7 hE7 (by rw [hpl.out]; exact hc7) hc7' hwp.out)
        rw [hpl.out] at k7
        clear hE7
        go_wp2_with fail
        refine k7.out.mono ?_
        clear k7
        rintro e W8 ⟨hB8, ⟨hne, -⟩ | ⟨-, ov8, rfl, hov8⟩⟩
        · exact absurd hcp.out hne
        rw [hpl.out, ← hp.out, raceK_take evs 0 0 (Nat.le_refl _)] at hov8
        obtain ⟨a8, cap8, rfl, u1, u2, -⟩ := ownsRow_form hov8
        rw [hsl.out] at u1 ⊢
        have hB68 := hB7.trans (hB8.mono hB7.size)
        have hB48 : Below W4.heap.size W4 W8 := hB46.out.trans (hB68.mono hB46.out.size)
        have hB28 : Below W2.heap.size W2 W8 := hB24.out.trans (hB48.mono hB24.out.size)
        have hB08 : Hid (Below w.heap.size w W8) := hB06.out.trans (hB68.mono hB06.out.size)
        have hsame := hid_of (same_true (some ⟨g, 0, none⟩) (some ⟨g6, 0, none⟩) 0 0 0 clients.toNat G G6 (fun i k => ((clkAt evs i k : Nat) : Int)) W8 (by omega) (Nat.le_refl _) ⟨by omega, by omega⟩ (by have := h16.out; omega)
          (fun i hi => ⟨g, rfl, stay hB28 (hC.out.row.cell (by omega))⟩) (fun i hi => ⟨g6, rfl, stay hB68 (hC6.out.row.cell hi)⟩)
          (fun i k hi hk => stay hB28 ((hC.out.each i (by omega)).2.2.cell hk)) (fun i k hi hk => by
            have hh := stay hB68 ((hC6.out.each i hi).2.2.cell hk)
            rw [← hp.out, clkAt_take evs hi] at hh
            exact hh))
        have hcm8 : cap8 ≤ 9223372036854775807 := by unfold maxLen at u2; omega
        have hra := hid_of (fun (W9 : World) (hB9 : Below W8.heap.size W8 W9) => races_true (some ⟨gr, 0, none⟩) a8 0 cr cap8 (fun i => (((raceK evs 0)[i]?.getD (0, 0)).1 : Int)) (fun i => (((raceK evs 0)[i]?.getD (0, 0)).2 : Int)) W9 (by omega) u1 ⟨by omega, hcm8⟩
          (fun i hi => by
            obtain ⟨u, hu⟩ : ∃ u, (raceK evs 0)[i]? = some u := ⟨_, List.getElem?_eq_getElem (by rw [hsl.out]; exact hi)⟩
            obtain ⟨gg, e1, e2, e3⟩ := hov4.out i u (by rw [hpre.out, List.getElem?_append_left (by rw [hsl.out]; exact hi)]; exact hu)
            rw [hu]
            exact ⟨gg, e1, stay hB9 (stay hB48 e2), stay hB9 (stay hB48 e3)⟩)
          (fun i hi => by
            obtain ⟨u, hu⟩ : ∃ u, (raceK evs 0)[i]? = some u := ⟨_, List.getElem?_eq_getElem (by rw [hsl.out]; exact hi)⟩
            obtain ⟨gg, e1, e2, e3⟩ := race_cells hov8 hu
            rw [hu]
            exact ⟨gg, e1, stay hB9 e2, stay hB9 e3⟩))
        replace hB48 := hid_of hB48
        replace hB28 := hid_of hB28
        replace hov8 := hid_of hov8
        clear hB7 hB8 hB68 u2
        have hnu := hid_of (num_any 0 W8)
        go_wp2_with fail
        refine hnu.out.mono ?_
        rintro e w' ⟨rfl, hw'⟩
        obtain rfl : W8 = w' := hw'.symm
        clear hw'
        go_wp2_with fail
        refine hnu.out.mono ?_
        rintro e w' ⟨rfl, hw'⟩
        obtain rfl : W8 = w' := hw'.symm
        clear hw' hnu
        go_wp2_with fail
        refine hsame.out.mono ?_
        rintro e W9 ⟨rfl, hB9⟩
        have hr9 := hid_of (hra.out W9 hB9)
        clear hsame hra
        replace hB9 := hid_of hB9
        go_wp2_with fail
        refine hr9.out.mono ?_
        rintro e W10 ⟨rfl, hB10⟩
        clear hr9
        have hB910 : Below W8.heap.size W8 W10 := hB9.out.trans (hB10.mono hB9.out.size)
        have hB010 : Hid (Below w.heap.size w W10) := hB08.out.trans (hB910.mono hB08.out.size)
        have hlv := hid_of (live_any W10)
        have hend : Hid (∀ W11, Below W10.heap.size W10 W11 → Below w.heap.size w W11) := fun W11 h => hB010.out.trans (h.mono hB010.out.size)
        clear hB10
        go_wp2_with fail
        refine hlv.out.mono ?_
        rintro e W11 ⟨rfl, hB11⟩
        go_wp2_with fail
        exact bodyPost_ret (v := .bool true) (by simp [results, Try.results7, go_sem]) rfl ⟨rfl, hend.out _ hB11⟩
      | some ad =>
        have hEp := (hE.out.keep hB04.out).take m
        rw [hp.out] at hEp
        have o5 := hid_of (own_use (some ad) cap p W4 hEp (by rw [hpl.out]; omega))
        rw [hpl.out] at o5
        go_wp2_with fail
        refine o5.out.mono ?_
        clear o5 hEp
        rintro e W5 ⟨hB5, g5, c5, rfl, hE5, hc5, hc5'⟩
        have k5 := hid_of (clocks_any (some ⟨g5, 0, none⟩) c5 p clients W5 hE5 (by rw [hpl.out]; exact hc5) (by rw [hpl.out]; omega) hwp.out)
        rw [hpl.out] at k5
        clear hE5
        go_wp2_with fail
        refine k5.out.mono ?_
        clear k5
        rintro e W6 ⟨hB6, ⟨hne, -⟩ | ⟨-, g6, G6, rfl, hC6⟩⟩
        · exact absurd hcp.out hne
        rw [hpl.out] at hC6 ⊢
        have hB46 := hB5.trans (hB6.mono hB5.size)
        have hB06 : Hid (Below w.heap.size w W6) := hB04.out.trans (hB46.mono hB04.out.size)
        have hEp6 := (hE.out.keep hB06.out).take m
        rw [hp.out] at hEp6
        have o7 := hid_of (own_use (some ad) cap p W6 hEp6 (by rw [hpl.out]; omega))
        rw [hpl.out] at o7
        replace hC6 := hid_of hC6
        replace hB46 := hid_of hB46
        clear hB5 hB6 hEp6
        go_wp2_with fail
        refine o7.out.mono ?_
        clear o7
        rintro e W7 ⟨hB7, g7, c7, rfl, hE7, hc7, hc7'⟩
        have k7 := hid_of (races_any (some ⟨g7, 0, none⟩) c7 p clients W7 hE7 (by rw [hpl.out]; exact hc7) hc7' hwp.out)
        rw [hpl.out] at k7
        clear hE7
        go_wp2_with fail
        refine k7.out.mono ?_
        clear k7
        rintro e W8 ⟨hB8, ⟨hne, -⟩ | ⟨-, ov8, rfl, hov8⟩⟩
        · exact absurd hcp.out hne
        rw [hpl.out, ← hp.out, raceK_take evs m m (Nat.le_refl _)] at hov8
        obtain ⟨a8, cap8, rfl, u1, u2, -⟩ := ownsRow_form hov8
        rw [hsl.out] at u1 ⊢
        have hB68 := hB7.trans (hB8.mono hB7.size)
        have hB48 : Below W4.heap.size W4 W8 := hB46.out.trans (hB68.mono hB46.out.size)
        have hB28 : Below W2.heap.size W2 W8 := hB24.out.trans (hB48.mono hB24.out.size)
        have hB08 : Hid (Below w.heap.size w W8) := hB06.out.trans (hB68.mono hB06.out.size)
        have hsame := hid_of (same_true (some ⟨g, 0, none⟩) (some ⟨g6, 0, none⟩) m n m clients.toNat G G6 (fun i k => ((clkAt evs i k : Nat) : Int)) W8 (by omega) (Nat.le_refl _) ⟨by omega, by omega⟩ (by have := h16.out; omega)
          (fun i hi => ⟨g, rfl, stay hB28 (hC.out.row.cell (by omega))⟩) (fun i hi => ⟨g6, rfl, stay hB68 (hC6.out.row.cell hi)⟩)
          (fun i k hi hk => stay hB28 ((hC.out.each i (by omega)).2.2.cell hk)) (fun i k hi hk => by
            have hh := stay hB68 ((hC6.out.each i hi).2.2.cell hk)
            rw [← hp.out, clkAt_take evs hi] at hh
            exact hh))
        have hcm8 : cap8 ≤ 9223372036854775807 := by unfold maxLen at u2; omega
        have hra := hid_of (fun (W9 : World) (hB9 : Below W8.heap.size W8 W9) => races_true (some ⟨gr, 0, none⟩) a8 sL cr cap8 (fun i => (((raceK evs m)[i]?.getD (0, 0)).1 : Int)) (fun i => (((raceK evs m)[i]?.getD (0, 0)).2 : Int)) W9 (by omega) u1 ⟨by omega, hcm8⟩
          (fun i hi => by
            obtain ⟨u, hu⟩ : ∃ u, (raceK evs m)[i]? = some u := ⟨_, List.getElem?_eq_getElem (by rw [hsl.out]; exact hi)⟩
            obtain ⟨gg, e1, e2, e3⟩ := hov4.out i u (by rw [hpre.out, List.getElem?_append_left (by rw [hsl.out]; exact hi)]; exact hu)
            rw [hu]
            exact ⟨gg, e1, stay hB9 (stay hB48 e2), stay hB9 (stay hB48 e3)⟩)
          (fun i hi => by
            obtain ⟨u, hu⟩ : ∃ u, (raceK evs m)[i]? = some u := ⟨_, List.getElem?_eq_getElem (by rw [hsl.out]; exact hi)⟩
            obtain ⟨gg, e1, e2, e3⟩ := race_cells hov8 hu
            rw [hu]
            exact ⟨gg, e1, stay hB9 e2, stay hB9 e3⟩))
        replace hB48 := hid_of hB48
        replace hB28 := hid_of hB28
        replace hov8 := hid_of hov8
        clear hB7 hB8 hB68 u2
        have hnu := hid_of (num_any 0 W8)
        go_wp2_with fail
        refine hnu.out.mono ?_
        rintro e w' ⟨rfl, hw'⟩
        obtain rfl : W8 = w' := hw'.symm
        clear hw'
        go_wp2_with fail
        refine hnu.out.mono ?_
        rintro e w' ⟨rfl, hw'⟩
        obtain rfl : W8 = w' := hw'.symm
        clear hw' hnu
        go_wp2_with fail
        refine hsame.out.mono ?_
        rintro e W9 ⟨rfl, hB9⟩
        have hr9 := hid_of (hra.out W9 hB9)
        clear hsame hra
        replace hB9 := hid_of hB9
        go_wp2_with fail
        refine hr9.out.mono ?_
        rintro e W10 ⟨rfl, hB10⟩
        clear hr9
        have hB910 : Below W8.heap.size W8 W10 := hB9.out.trans (hB10.mono hB9.out.size)
        have hB010 : Hid (Below w.heap.size w W10) := hB08.out.trans (hB910.mono hB08.out.size)
        have hlv := hid_of (live_any W10)
        have hend : Hid (∀ W11, Below W10.heap.size W10 W11 → Below w.heap.size w W11) := fun W11 h => hB010.out.trans (h.mono hB010.out.size)
        by_cases hrs : rL = sL
        · subst hrs
          clear hB10
          go_wp2_with fail
          refine hlv.out.mono ?_
          rintro e W11 ⟨rfl, hB11⟩
          go_wp2_with fail
          exact bodyPost_ret (v := .bool true) (by simp [results, Try.results7, go_sem]) rfl ⟨rfl, hend.out _ hB11⟩
        · obtain ⟨u, hu, hum⟩ : ∃ u, (raceK evs n)[sL]? = some u ∧ m ≤ u.2 := by
            obtain ⟨u, hu⟩ : ∃ u, tl[0]? = some u := by
              cases htl0 : tl with
              | nil =>
                exfalso
                have h1 := hrl.out
                rw [hpre.out, htl0, List.append_nil, hsl.out] at h1
                exact hrs h1.symm
              | cons u l => exact ⟨u, rfl⟩
            exact ⟨u, by rw [hpre.out, List.getElem?_append_right (by rw [hsl.out]; exact Nat.le_refl _), hsl.out, Nat.sub_self]; exact hu, htl.out u (List.mem_of_getElem? hu)⟩
          obtain ⟨gg, e1, -, e3⟩ := hov4.out sL u hu
          cases e1
          have z3 := stay hB910 (stay hB48.out e3)
          have hslt : sL < rL := by omega
          have hne1 : ¬ (rL : Int) = (sL : Int) := by omega
          have hge : (m : Int) ≤ (u.2 : Int) := by omega
          clear hB10 e3
          go_wp2_with fail
          refine hlv.out.mono ?_
          rintro e W11 ⟨rfl, hB11⟩
          go_wp2_with fail
          exact bodyPost_ret (v := .bool true) (by simp [results, Try.results7, go_sem]) rfl ⟨rfl, hend.out _ hB11⟩
  · obtain ⟨ev0, hev0⟩ : ∃ v, e = .returned (.tuple #[v, .int .i64 (chk evs clients)]) := by
      rcases hpost2 with ⟨-, h1⟩ | ⟨h1, -⟩
      · exact ⟨_, h1⟩
      · exact absurd h1 h0
    subst hev0
    obtain ⟨cv, hcv⟩ : ∃ cv, Hid (chk evs clients = cv) := ⟨_, rfl⟩
    rw [hcv.out] at h0 ⊢
    replace hB02 := hid_of hB02
    clear hB1 hB2 hpost2
    go_wp2_with fail
    refine o2.out.mono ?_
    clear o2
    rintro e W3 ⟨hB3, g3, c3, rfl, hE3, hc3, hc3'⟩
    have k3 := hid_of (races_any (some ⟨g3, 0, none⟩) c3 evs clients W3 hE3 (by rw [hn.out]; exact hc3) hc3' hwf.out)
    rw [hn.out] at k3
    clear hE3
    go_wp2_with fail
    refine k3.out.mono ?_
    clear k3
    rintro e W4 ⟨hB4, hp4⟩
    obtain ⟨r0, r1, rfl⟩ : ∃ r0 r1, e = .returned (.tuple #[r0, r1]) := by
      rcases hp4 with ⟨-, h1⟩ | ⟨-, ov, h1, -⟩
      · exact ⟨_, _, h1⟩
      · exact ⟨_, _, h1⟩
    have hB24 : Below W2.heap.size W2 W4 := hB3.trans (hB4.mono hB3.size)
    have hB04 : Hid (Below w.heap.size w W4) := hB02.out.trans (hB24.mono hB02.out.size)
    clear hB3 hB4 hp4 hB24
    cases a with
    | none =>
      obtain rfl := hnil rfl
      obtain rfl : n = 0 := by omega
      obtain rfl : m = 0 := by omega
      have hEp := (hE.out.keep hB04.out).take 0
      rw [hp.out] at hEp
      have o5 := hid_of (own_use none 0 p W4 hEp (by rw [hpl.out]; omega))
      rw [hpl.out] at o5
      go_wp2_with fail
      refine o5.out.mono ?_
      clear o5 hEp
      rintro e W5 ⟨hB5, g5, c5, rfl, hE5, hc5, hc5'⟩
      have k5 := hid_of (clocks_any (some ⟨g5, 0, none⟩) c5 p clients W5 hE5 (by rw [hpl.out]; exact hc5) (by rw [hpl.out]; omega) hwp.out)
      rw [hpl.out] at k5
      clear hE5
      go_wp2_with fail
      refine k5.out.mono ?_
      clear k5
      rintro e W6 ⟨hB6, hp6⟩
      obtain ⟨s0, s1, rfl⟩ : ∃ s0 s1, e = .returned (.tuple #[s0, s1]) := by
        rcases hp6 with ⟨-, h1⟩ | ⟨-, g, G, h1, -⟩
        · exact ⟨_, _, h1⟩
        · exact ⟨_, _, h1⟩
      have hB46 := hB5.trans (hB6.mono hB5.size)
      have hB06 : Hid (Below w.heap.size w W6) := hB04.out.trans (hB46.mono hB04.out.size)
      have hEp6 := (hE.out.keep hB06.out).take 0
      rw [hp.out] at hEp6
      have o7 := hid_of (own_use none 0 p W6 hEp6 (by rw [hpl.out]; omega))
      rw [hpl.out] at o7
      clear hB5 hB6 hEp6 hB46 hp6
      go_wp2_with fail
      refine o7.out.mono ?_
      clear o7
      rintro e W7 ⟨hB7, g7, c7, rfl, hE7, hc7, hc7'⟩
      have k7 := hid_of (races_any (some ⟨g7, 0, none⟩) c7 p clients W7 hE7 (by rw [hpl.out]; exact hc7) hc7' hwp.out)
      rw [hpl.out] at k7
      clear hE7
      go_wp2_with fail
      refine k7.out.mono ?_
      clear k7
      rintro e W8 ⟨hB8, hp8⟩
      obtain ⟨t0, t1, rfl⟩ : ∃ t0 t1, e = .returned (.tuple #[t0, t1]) := by
        rcases hp8 with ⟨-, h1⟩ | ⟨-, ov, h1, -⟩
        · exact ⟨_, _, h1⟩
        · exact ⟨_, _, h1⟩
      have hB68 := hB7.trans (hB8.mono hB7.size)
      have hB08 : Hid (Below w.heap.size w W8) := hB06.out.trans (hB68.mono hB06.out.size)
      have hnu := hid_of (num_any cv W8)
      have hlv := hid_of (live_any W8)
      have hcne : (cv != 0) = true := by simp [h0]
      clear hB7 hB8 hB68 hp8
      go_wp2_with fail
      refine hnu.out.mono ?_
      rintro e w' ⟨rfl, hw'⟩
      obtain rfl : W8 = w' := hw'.symm
      clear hw'
      go_wp2_with fail
      refine hlv.out.mono ?_
      rintro e W9 ⟨rfl, hB9⟩
      go_wp2_with fail
      exact bodyPost_ret (v := .bool true) (by simp [results, Try.results7, go_sem]) rfl ⟨rfl, hB08.out.trans (hB9.mono hB08.out.size)⟩
    | some ad =>
      have hEp := (hE.out.keep hB04.out).take m
      rw [hp.out] at hEp
      have o5 := hid_of (own_use (some ad) cap p W4 hEp (by rw [hpl.out]; omega))
      rw [hpl.out] at o5
      go_wp2_with fail
      refine o5.out.mono ?_
      clear o5 hEp
      rintro e W5 ⟨hB5, g5, c5, rfl, hE5, hc5, hc5'⟩
      have k5 := hid_of (clocks_any (some ⟨g5, 0, none⟩) c5 p clients W5 hE5 (by rw [hpl.out]; exact hc5) (by rw [hpl.out]; omega) hwp.out)
      rw [hpl.out] at k5
      clear hE5
      go_wp2_with fail
      refine k5.out.mono ?_
      clear k5
      rintro e W6 ⟨hB6, hp6⟩
      obtain ⟨s0, s1, rfl⟩ : ∃ s0 s1, e = .returned (.tuple #[s0, s1]) := by
        rcases hp6 with ⟨-, h1⟩ | ⟨-, g, G, h1, -⟩
        · exact ⟨_, _, h1⟩
        · exact ⟨_, _, h1⟩
      have hB46 := hB5.trans (hB6.mono hB5.size)
      have hB06 : Hid (Below w.heap.size w W6) := hB04.out.trans (hB46.mono hB04.out.size)
      have hEp6 := (hE.out.keep hB06.out).take m
      rw [hp.out] at hEp6
      have o7 := hid_of (own_use (some ad) cap p W6 hEp6 (by rw [hpl.out]; omega))
      rw [hpl.out] at o7
      clear hB5 hB6 hEp6 hB46 hp6
      go_wp2_with fail
      refine o7.out.mono ?_
      clear o7
      rintro e W7 ⟨hB7, g7, c7, rfl, hE7, hc7, hc7'⟩
      have k7 := hid_of (races_any (some ⟨g7, 0, none⟩) c7 p clients W7 hE7 (by rw [hpl.out]; exact hc7) hc7' hwp.out)
      rw [hpl.out] at k7
      clear hE7
      go_wp2_with fail
      refine k7.out.mono ?_
      clear k7
      rintro e W8 ⟨hB8, hp8⟩
      obtain ⟨t0, t1, rfl⟩ : ∃ t0 t1, e = .returned (.tuple #[t0, t1]) := by
        rcases hp8 with ⟨-, h1⟩ | ⟨-, ov, h1, -⟩
        · exact ⟨_, _, h1⟩
        · exact ⟨_, _, h1⟩
      have hB68 := hB7.trans (hB8.mono hB7.size)
      have hB08 : Hid (Below w.heap.size w W8) := hB06.out.trans (hB68.mono hB06.out.size)
      have hnu := hid_of (num_any cv W8)
      have hlv := hid_of (live_any W8)
      have hcne : (cv != 0) = true := by simp [h0]
      clear hB7 hB8 hB68 hp8
      go_wp2_with fail
      refine hnu.out.mono ?_
      rintro e w' ⟨rfl, hw'⟩
      obtain rfl : W8 = w' := hw'.symm
      clear hw'
      go_wp2_with fail
      refine hlv.out.mono ?_
      rintro e W9 ⟨rfl, hB9⟩
      go_wp2_with fail
      exact bodyPost_ret (v := .bool true) (by simp [results, Try.results7, go_sem]) rfl ⟨rfl, hB08.out.trans (hB9.mono hB08.out.size)⟩
end Go.Proofs.Ytkdkokmbfpfggaa
