import Derived.Test.YtdghkmgkmfnjjaaGreatDoorNC
import Derived.Test.YtdghkmgkmfnjjaaGreatDoorND
/-! The row CatalogNil. -/
namespace Go.Proofs.YtdghkmgkmfnjjaaGreatDoor
open Go Go.ChangeShapes Go.WideShapes Go.ChangeAt Go.RowKit Ap

set_option maxHeartbeats 8000000 in
set_option maxRecDepth 100000 in
theorem nil_true (k : Int) (nm : ByteArray) (ms sk sx : Int) (ss : ByteArray) (sa : Option Addr) (sl sc : Nat) (si : Option Addr) (sil sic : Nat) (pn pp : ByteArray) (pu : Bool) (aw : Option Addr) (nw cw : Nat) (an : Option Addr) (nn cn : Nat) (r1 r2 : Int) (csw csn : List Value) (na : Option Addr) (nl nc : Nat) (w : World) (hW : RawAt w aw nw csw) (hN : RawAt w an nn csn) (hnw : nw * 104 ≤ 140737488355328) (hnn : nn * 104 ≤ 140737488355328) :
    Calls Tryz.prog 3 #[.agg #[.int .i64 k, .string nm, .int .i64 ms, .int .i64 sk, .int .i64 sx, .string ss, .slice sa sl sc, .slice si sil sic, .string pn, .string pp, .bool pu, .slice aw nw cw, .slice an nn cn, .int .i64 r1, .int .i64 r2], .slice na nl nc] w fun e w' => e = .returned (.bool true) ∧ Below w.heap.size w w' := by
  have hB := (Below.refl _ w).alloc (Nat.le_refl _) (.cells #[.int .i64 k, .string nm, .int .i64 ms, .int .i64 sk, .int .i64 sx, .string ss, .slice sa sl sc, .slice si sil sic, .string pn, .string pp, .bool pu, .slice aw nw cw, .slice an nn cn, .int .i64 r1, .int .i64 r2] 32)
  have hA := heap_alloc_new w (.cells #[.int .i64 k, .string nm, .int .i64 ms, .int .i64 sk, .int .i64 sx, .string ss, .slice sa sl sc, .slice si sil sic, .string pn, .string pp, .bool pu, .slice aw nw cw, .slice an nn cn, .int .i64 r1, .int .i64 r2] 32)
  have hdo := hid_of (does_nil k nm ms sk sx ss sa sl sc si sil sic pn pp pu aw nw cw an nn cn r1 r2 csw csn _ (hW.keep hB) (hN.keep hB) hnw hnn)
  obtain ⟨b, hb⟩ : ∃ b, Hid (b = w.heap.size) := ⟨_, rfl⟩
  rw [← hb.out] at hA
  obtain ⟨W1, hW1⟩ : ∃ W1, Hid (w.alloc (.cells #[.int .i64 k, .string nm, .int .i64 ms, .int .i64 sk, .int .i64 sx, .string ss, .slice sa sl sc, .slice si sil sic, .string pn, .string pp, .bool pu, .slice aw nw cw, .slice an nn cn, .int .i64 r1, .int .i64 r2] 32) = W1) := ⟨_, rfl⟩
  rw [hW1.out] at hB hA hdo
  obtain ⟨q0, q1, q2, q3, q4, q5, q6, q7, q8, q9, q10, q11, q12, q13, q14⟩ := act_at hA
  have hlv := fun W => hid_of (live_any W)
  replace hB := hid_of hB
  replace hA := hid_of hA
  clear hW hN hnw hnn
  go_enter Tryz.func3, Tryz.ntmps3
  go_wp2_with (first | (rw [hW1.out]) | (rw [← hb.out]))
  refine hdo.out.mono ?_
  rintro e X1 ⟨rfl, hb1⟩
  replace q1 := stay hb1 q1
  replace hB := hid_of (hB.out.trans (hb1.mono hB.out.size))
  clear hdo hA q0 q2 q3 q4 q5 q6 q7 q8 q9 q10 q11 q12 q13 q14 hb1 hW1
  go_wp2_with fail
  refine (ncoll nm _).mono ?_
  rintro e X2 ⟨rfl, hb2⟩
  have p1 := cell_alloc' (stay hb2 q1) (.cells #[.string ⟨#[]⟩, .int .i64 0, .int .i64 0, .int .i64 0, .int .i64 0, .string ⟨#[]⟩, .slice none 0 0, .slice none 0 0, .int .i64 0, .int .i64 0, .slice none 0 0] 39)
  have hB2 := hB.out.trans (hb2.mono hB.out.size)
  replace hB := hid_of (hB2.alloc hB2.size (.cells #[.string ⟨#[]⟩, .int .i64 0, .int .i64 0, .int .i64 0, .int .i64 0, .string ⟨#[]⟩, .slice none 0 0, .slice none 0 0, .int .i64 0, .int .i64 0, .slice none 0 0] 39))
  clear q1 hb2 hB2
  go_wp2_with fail
  refine (nchoose nm na nl nc _).mono ?_
  rintro e Z ⟨rfl, hZ⟩
  have hZ := hZ.symm
  subst hZ
  go_wp2_with fail
  refine (nnames _).mono ?_
  rintro e Z ⟨rfl, hZ⟩
  have hZ := hZ.symm
  subst hZ
  clear p1
  go_wp2_with fail
  refine (hlv _).out.mono ?_
  rintro e X3 ⟨rfl, hb3⟩
  replace hB := hid_of (hB.out.trans (hb3.mono hB.out.size))
  clear hb3 hlv
  go_wp2_with fail
  go_ret
  exact ⟨rfl, hB.out⟩
set_option maxRecDepth 100000 in
theorem nil_lifted (os : Os) (started : os.Started) (H : Type) (enc : TypeId × Value → H) :
    ReturnsInHanded {} Tryz.checked os 3 .any (fun w args => (Rows.catalogNilSpec.pre enc Tryz.prog Tryz.f3 [] false w args ∧ laidMetH Tryz.prog Rows.catalogNilRow.laid w) ∧ sizedMet enc Tryz.prog Tryz.f3 (OpenSpec.ofChange Rows.catalogNilSpec) false w args)
      (Rows.catalogNilSpec.post enc Tryz.prog Tryz.f3 false true false false) := by
  refine returnsInHanded_of_change_and (C := Tryz.checked) (X := fun w _ => laidMetH Tryz.prog Rows.catalogNilRow.laid w) (fun _ _ _ hh h => h.of_heap hh) own_knob started (by kernel_rfl) Tryz.func3
    (ChangeSpec.witness_shaped (enc := enc) (C := Tryz.checked) (os := os) (X := fun w _ => laidMetH Tryz.prog Rows.catalogNilRow.laid w) false (World.laidAll Tryz.prog os Rows.catalogNilRow.laid) #[.agg #[.int .i64 0, .string ⟨#[]⟩, .int .i64 0, .int .i64 0, .int .i64 0, .string ⟨#[]⟩, .slice none 0 0, .slice none 0 0, .string ⟨#[]⟩, .string ⟨#[]⟩, .bool false, .slice none 0 0, .slice none 0 0, .int .i64 0, .int .i64 0], .slice none 0 0] 8 (World.laidAll_os _ _ _)
      (World.shaped_of_ZipB (by kernel_rfl) (by kernel_rfl)) (by kernel_rfl) (by kernel_rfl) (by kernel_rfl)
      (by rw [MakeChecks.laidMetH_plain _ _ _ (by kernel_rfl)]; exact laidMet_laidAll _ (by kernel_rfl) (by kernel_rfl))) ?_
  intro W base args ds gs before hval0 hW _ hsz0 _ _
  have hval : ∀ (j : Nat) t v, Tryz.f3.params[j]? = some t → args[j]? = some v → Value.okWide Tryz.prog W .any base t v := hval0
  have hsz : (DataW.weightsEach Tryz.prog (Tryz.f3.params.toList ++ Rows.catalogNilSpec.plain.varTypes Tryz.prog) (ds ++ gs)).all (· ≤ reachBytes) = true := hsz0
  have hW' := hW
  obtain ⟨p, q, hA0, hV, rfl, _, _⟩ := hW
  have hA : DataW.TrodAll enc Tryz.prog W 0 (fun _ => true) true Tryz.f3.params.toList args.toList ds p := hA0
  rw [Tryz.params3] at hA hval hsz
  obtain ⟨v0, v1, d0, d1, p0, p1, rfl, rfl, rfl, h0, h1⟩ := trodAll_two hA
  obtain ⟨rfl, rfl⟩ := trodVars_none hV
  clear hA0 hval0 hsz0
  obtain ⟨cs0, rfl, _⟩ := okWide_struct Tryz.underlying32 (hval 0 32 v0 rfl rfl)
  obtain ⟨a, len, cap, rfl⟩ := okWide_slice Tryz.underlying33 (hval 1 33 v1 rfl rfl)
  obtain ⟨k, nm, ms, sk, sx, ss, sa, sl, sc, si, sil, sic, pn, pp, pu, aw, nw, cw, an, nn, cn, r1, r2, csw, csn, hcs, hRw, hbw, hRn, hbn⟩ : ∃ (k : Int) (nm : ByteArray) (ms sk sx : Int) (ss : ByteArray) (sa : Option Addr) (sl sc : Nat) (si : Option Addr) (sil sic : Nat) (pn pp : ByteArray) (pu : Bool) (aw : Option Addr) (nw cw : Nat) (an : Option Addr) (nn cn : Nat) (r1 r2 : Int) (csw csn : List Value), cs0 = #[.int .i64 k, .string nm, .int .i64 ms, .int .i64 sk, .int .i64 sx, .string ss, .slice sa sl sc, .slice si sil sic, .string pn, .string pp, .bool pu, .slice aw nw cw, .slice an nn cn, .int .i64 r1, .int .i64 r2] ∧ RawAt W aw nw csw ∧ nw * 104 ≤ 140737488355328 ∧ RawAt W an nn csn ∧ nn * 104 ≤ 140737488355328 := by
    obtain ⟨fuel, hf⟩ := h0
    obtain ⟨k, nm, ms, sk, sx, ss, sa, sl, sc, si, sil, sic, pn, pp, pu, aw, nw, cw, an, nn, cn, r1, r2, csw, csn, e, h1', h2', h3', h4'⟩ := open_act hf (fun k hk => of_decide_eq_true (List.all_eq_true.1 hsz _ (DataW.weights_mem_each (j := 0) rfl rfl k hk)))
    have e' : cs0.toList = _ := e
    exact ⟨k, nm, ms, sk, sx, ss, sa, sl, sc, si, sil, sic, pn, pp, pu, aw, nw, cw, an, nn, cn, r1, r2, csw, csn, by rw [show cs0 = cs0.toList.toArray by simp, e'], h1', h2', h3', h4'⟩
  subst hcs
  simp only [List.append_nil] at hW'
  have hlt0 : ∀ x ∈ p0, x.block < W.heap.size := fun x hx => by simpa using hW'.lt x (by simp [hx])
  have hlt1 : ∀ x ∈ p1, x.block < W.heap.size := fun x hx => by simpa using hW'.lt x (by simp [hx])
  refine (nil_true k nm ms sk sx ss sa sl sc si sil sic pn pp pu aw nw cw an nn cn r1 r2 csw csn a len cap W hRw hRn hbw hbn).mono fun e W' ⟨he, hb⟩ => ?_
  subst he
  exact ⟨_, rfl, _, _, _, [], _, [], hW', trodAll_mk1 (shut_bool Tryz.underlying4 _), trodAll_mk2 (Below.trod laid_out (by kernel_rfl) (of_decide_eq_true (by kernel_rfl)) h0 hb hlt0) (Below.trod laid_out (by kernel_rfl) (of_decide_eq_true (by kernel_rfl)) h1 hb hlt1), rfl, hb.frame _, fun h => by cases h⟩

theorem nil_holds : Rows.CatalogNilSaid :=
  OpenClaim.holds_of_wide 3 Tryz.f3 rfl rfl rfl rfl rfl rfl rfl ⟨rfl, rfl, rfl, rfl, rfl⟩ rfl rfl rfl rfl rfl (by kernel_rfl) Tryz.func3 (by kernel_rfl)
    (of_decide_eq_true (by kernel_rfl)) (by unfold Func.isWrapper; first | (rw [if_pos (by decide +kernel)]; kernel_rfl) | (rw [if_neg (by decide +kernel)]; exact ⟨rfl, rfl⟩))
    (fun os started H enc _ => nil_lifted os started H enc)
end Go.Proofs.YtdghkmgkmfnjjaaGreatDoor
