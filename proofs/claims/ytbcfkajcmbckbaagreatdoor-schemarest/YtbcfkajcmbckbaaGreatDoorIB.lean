import Derived.Test.YtbcfkajcmbckbaaGreatDoorIA
import Derived.Shelf.Strconv.Itoa4
/-! strconv.Itoa of a number that is not below 0, whatever the table of powers holds: some text. -/
namespace Go.Proofs.YtbcfkajcmbckbaaGreatDoor
open Go Go.Proofs Go.Shelf Go.RowKit Go.Sort Go.Lib
variable {P : Program} {ρ : Ren}

/-- The table holds numbers. -/
def PowAt (g : Nat) (w : World) : Prop := ∀ j, j < 20 → ∃ z, w.cell? ⟨g, j, none⟩ = some (.int .u64 z)
theorem PowAt.keep {g : Nat} {w W : World} (h : PowAt g w) (hb : Below w.heap.size w W) : PowAt g W := fun j hj => by
  obtain ⟨z, hz⟩ := h j hj
  have hlt : g < w.heap.size := by
    rcases Nat.lt_or_ge g w.heap.size with h' | h'
    · exact h'
    · simp [World.cell?, Array.getElem?_eq_none h'] at hz
  exact ⟨z, (hb.cell (p := ⟨g, j, none⟩) hlt).trans hz⟩
set_option maxHeartbeats 2000000 in
set_option maxRecDepth 100000 in
theorem digits_free (L : LaysM.n284 P ρ) (u : Nat) (h1 : 1 ≤ u) (h2 : u < 18446744073709551616) (w : World) (hT : PowAt (ρ.g 17) w) :
    Calls P (ρ.f 284) #[.int .u64 u] w fun e w' => (∃ nd : Nat, nd ≤ 20 ∧ e = .returned (.int .i64 nd)) ∧ w' = w := by
  have mixed := L.mixed
  have t53 := L.t53; have a53 := L.a53; have z53 := L.z53; have v53 := L.v53
  have t3 := L.t3; have a3 := L.a3; have z3 := L.z3; have v3 := L.v3
  have t212 := L.t212; have a212 := L.a212; have z212 := L.z212; have v212 := L.v212
  have t0 := L.t0; have a0 := L.a0; have z0 := L.z0; have v0 := L.v0
  have t4 := L.t4; have a4 := L.a4; have z4 := L.z4; have v4 := L.v4
  have e129 : ∀ args w, (callFunc (ρ.f 129) args).run P w = .ok (.enter (ρ.f 129) args) w := enters_of L.f129 (by kernel_rfl) rfl
  have e317 : ∀ args w, (callFunc (ρ.f 317) args).run P w = .ok (.enter (ρ.f 317) args) w := enters_of L.f317 (by kernel_rfl) rfl
  have e318 : ∀ args w, (callFunc (ρ.f 318) args).run P w = .ok (.enter (ρ.f 318) args) w := enters_of L.f318 (by kernel_rfl) rfl
  obtain ⟨-, h19⟩ := Lib.numDigits_eq u h1 h2
  have hL : Lib.bitLen u ≤ 64 := Lib.bitLen_le u 64 (Nat.le_refl _) h2
  obtain ⟨z, hcell⟩ := hT (Lib.l10 (Lib.bitLen u)) (by omega)
  have hto : ((u : Int)).toNat = u := by omega
  generalize hq : Lib.l10 (Lib.bitLen u) = q at h19 hcell
  have h20 : q < 20 := by omega
  clear hT
  obtain ⟨y, hy⟩ : ∃ y : Bool, decide ((z : Int) ≤ (u : Int)) = y := ⟨_, rfl⟩
  go_enter L.f284, Body.n284_ntmps ρ
  go_wp2_with (first
    | (go_at_fn (ρ.f 129); refine (Any.bits_Len64 { L with } _ _ (by omega) (by omega)).mono ?_; rintro e w' ⟨rfl, rfl⟩)
    | (go_at_fn (ρ.f 317); refine (Any.internal_strconv_log10Pow2 { L with } _ (by first | exact hL | (rw [hto]; exact hL)) _).mono ?_; rintro e w' ⟨rfl, rfl⟩)
    | (go_at_fn (ρ.f 318); refine (Any.internal_strconv_bool2_int { L with } _ _).mono ?_; rintro e w' ⟨rfl, rfl⟩))
  all_goals go_ret
  all_goals
    refine ⟨?_, rfl⟩
    first
      | exact ⟨q, by omega, rfl⟩
      | exact ⟨q + 1, by omega, rfl⟩
      | exact ⟨q, by omega, by congr 1; congr 1; omega⟩
      | exact ⟨q + 1, by omega, by congr 1; congr 1; omega⟩
set_option maxHeartbeats 6400000 in
set_option maxRecDepth 100000 in
theorem formatInt_free (L : LaysM.n246 P ρ) (n : Nat) (h1 : n ≤ 1759218604390) (w : World) (hT : PowAt (ρ.g 17) w) :
    Calls P (ρ.f 246) #[.int .i64 n, .int .i64 10] w fun e w' => (∃ s, e = .returned (.string s)) ∧ Below w.heap.size w w' := by
  by_cases hs : n < 100
  · refine (Any.internal_strconv_FormatInt_10_small { L with } n hs w).mono ?_
    rintro e w' ⟨rfl, rfl⟩
    exact ⟨⟨_, rfl⟩, Below.refl _ _⟩
  have mixed := L.mixed
  have t2 := L.t2; have a2 := L.a2; have z2 := L.z2; have v2 := L.v2
  have t3 := L.t3; have a3 := L.a3; have z3 := L.z3; have v3 := L.v3
  have t9 := L.t9; have a9 := L.a9; have z9 := L.z9; have v9 := L.v9
  have t4 := L.t4; have a4 := L.a4; have z4 := L.z4; have v4 := L.v4
  have t171 := L.t171; have a171 := L.a171; have z171 := L.z171; have v171 := L.v171
  have t0 := L.t0; have a0 := L.a0; have z0 := L.z0; have v0 := L.v0
  have t53 := L.t53; have a53 := L.a53; have z53 := L.z53; have v53 := L.v53
  have t37 := L.t37; have a37 := L.a37; have z37 := L.z37; have v37 := L.v37
  have t5 := L.t5; have a5 := L.a5; have z5 := L.z5; have v5 := L.v5
  have t173 := L.t173; have a173 := L.a173; have z173 := L.z173; have v173 := L.v173
  have e283 : ∀ args w, (callFunc (ρ.f 283) args).run P w = .ok (.enter (ρ.f 283) args) w := enters_of L.f283 (by kernel_rfl) rfl
  have e284 : ∀ args w, (callFunc (ρ.f 284) args).run P w = .ok (.enter (ρ.f 284) args) w := enters_of L.f284 (by kernel_rfl) rfl
  have e285 : ∀ args w, (callFunc (ρ.f 285) args).run P w = .ok (.enter (ρ.f 285) args) w := enters_of L.f285 (by kernel_rfl) rfl
  have hs1 : (100 : Int) ≤ (n : Int) := by omega
  have hs2 : (n : Int) ≤ 1759218604390 := by omega
  have hT1 := Lib.hid (hT.keep ((Below.refl w.heap.size w).alloc (Nat.le_refl _) (.cells Lib.zeros24 (ρ.t 171))))
  have hal : P.arrayLen (ρ.t 171) = 24 := by simp [Program.arrayLen, L.t171]
  have hsl : ∀ (nd : Nat), nd ≤ 20 → ∀ W, (Instr.sliceAt (ρ.t 171) (.pointer (some ⟨w.heap.size, 0, none⟩)) (some (.int .i64 1)) (some (.int .i64 (1 + (nd : Int)))) none).run P W = .ok (.slice (some ⟨w.heap.size, 1, none⟩) nd 23) W := fun nd hnd W => by
    rw [run_sliceAt_array_lh W (ρ.t 171) ⟨w.heap.size, 0, none⟩ (by simp [Program.arrayLen, Program.elem, L.t171]) .i64 .i64 1 (1 + (nd : Int)) (by omega) (by omega) (by rw [hal]; omega)]
    go_simp
    try omega
  have hZ : ∀ nd, nd ≤ 20 → Hid (B8 w.heap.size w (w.alloc (.cells Lib.zeros24 (ρ.t 171))) w.heap.size 1 nd) := fun nd hnd => by
    refine Lib.hid ⟨(Below.refl w.heap.size w).alloc (Nat.le_refl _) _, Nat.le_refl _, fun _ => 0, fun t ht => ⟨?_, World.frozen?_alloc_new _ _ _ _⟩⟩
    rw [World.cell?_alloc_new]
    exact Lib.zeros24_at (1 + t) (by omega)
  have hcv : ∀ (nd : Nat), nd ≤ 20 → ∀ W, B8 w.heap.size w W w.heap.size 1 nd → ∃ s, (convert (ρ.t 37) (ρ.t 9) (.slice (some ⟨w.heap.size, 1, none⟩) nd 23)).run P W = .ok (.string s) W := fun nd hnd W hB => by
    obtain ⟨-, -, G, hG⟩ := hB
    have h := run_convert_bytes_back (P := P) W (ρ.t 37) (ρ.t 9) (ρ.t 5) ⟨w.heap.size, 1, none⟩ 23 ((List.range nd).map G) L.t37 L.t5 L.t9 (fun j hj => by
      rw [Lib.add_plain]
      simp only [List.length_map, List.length_range] at hj
      rw [(hG j hj).1]
      simp)
    simp only [List.length_map, List.length_range] at h
    exact ⟨_, h⟩
  replace hcv := Lib.hid hcv
  clear hal hs hT
  go_enter L.f246, Body.n246_ntmps ρ
  go_wp2_with (first
    | (go_at_fn (ρ.f 284); refine (digits_free { L with } n (by omega) (by omega) _ hT1.out).mono ?_; rintro e w' ⟨⟨nd, hnd, rfl⟩, rfl⟩; have hsl1 := hsl nd hnd; have hb3 : (nd : Int) ≤ 23 := by omega))
  go_at_fn (ρ.f 285)
  refine (format_free { L with } w.heap.size w.heap.size 1 23 nd n _ ⟨Below.refl _ _, (hZ nd hnd).out.2⟩ (by omega) (by omega)).mono ?_
  rintro e w' ⟨rfl, hB⟩
  replace hB : B8 w.heap.size w w' w.heap.size 1 nd := ⟨(hZ nd hnd).out.1.trans hB.1, hB.2⟩
  obtain ⟨s, hs⟩ := hcv.out nd hnd w' hB
  clear hcv hsl hZ hT1
  go_wp2
  go_ret
  exact ⟨⟨s, rfl⟩, hB.1⟩
set_option maxRecDepth 100000 in
theorem itoa_free1 (L : LaysM.n243 P ρ) (n : Nat) (h1 : n ≤ 1759218604390) (w : World) (hT : PowAt (ρ.g 17) w) :
    Calls P (ρ.f 243) #[.int .i64 n] w fun e w' => (∃ s, e = .returned (.string s)) ∧ Below w.heap.size w w' := by
  have mixed := L.mixed
  have t3 := L.t3; have a3 := L.a3; have z3 := L.z3; have v3 := L.v3
  have t9 := L.t9; have a9 := L.a9; have z9 := L.z9; have v9 := L.v9
  have t2 := L.t2; have a2 := L.a2; have z2 := L.z2; have v2 := L.v2
  have e246 : ∀ args w, (callFunc (ρ.f 246) args).run P w = .ok (.enter (ρ.f 246) args) w := enters_of L.f246 (by kernel_rfl) rfl
  have hs2 : (n : Int) ≤ 1759218604390 := by omega
  go_enter L.f243, Body.n243_ntmps ρ
  go_wp2_with (go_at_fn (ρ.f 246); refine (formatInt_free { L with } n h1 _ hT).mono ?_; rintro e w' ⟨⟨s, rfl⟩, hb⟩)
  go_ret
  exact ⟨⟨s, rfl⟩, hb⟩
set_option maxRecDepth 100000 in
theorem itoa_free (L : LaysM.n171 P ρ) (n : Nat) (h1 : n ≤ 1759218604390) (w : World) (hT : PowAt (ρ.g 17) w) :
    Calls P (ρ.f 171) #[.int .i64 n] w fun e w' => (∃ s, e = .returned (.string s)) ∧ Below w.heap.size w w' := by
  have mixed := L.mixed
  have t3 := L.t3; have a3 := L.a3; have z3 := L.z3; have v3 := L.v3
  have t9 := L.t9; have a9 := L.a9; have z9 := L.z9; have v9 := L.v9
  have e243 : ∀ args w, (callFunc (ρ.f 243) args).run P w = .ok (.enter (ρ.f 243) args) w := enters_of L.f243 (by kernel_rfl) rfl
  have hs2 : (n : Int) ≤ 1759218604390 := by omega
  go_enter L.f171, Body.n171_ntmps ρ
  go_wp2_with (go_at_fn (ρ.f 243); refine (itoa_free1 { L with } n h1 _ hT).mono ?_; rintro e w' ⟨⟨s, rfl⟩, hb⟩)
  go_ret
  exact ⟨⟨s, rfl⟩, hb⟩
end Go.Proofs.YtbcfkajcmbckbaaGreatDoor
