import Derived.Test.YtnlljodmkacmlaaGreatDoorKO
import Derived.Test.YtnlljodmkacmlaaGreatDoorKC
import Derived.Test.YtnlljodmkacmlaaGreatDoorShelf3
import Derived.Lib.LaidU8T
import Derived.Lib.LaidTab
import Derived.Test.YtnlljodmkacmlaaGreatDoorTie
import Derived.Test.YtnlljodmkacmlaaGreatDoorCards
import Derived.SevenTiedAt
/-! The row IndexChoose. -/
namespace Go.Proofs.YtnlljodmkacmlaaGreatDoor.Chk
open Go Go.ChangeShapes Go.WideShapes Go.ChangeAt Go.RowKit

theorem first_eq : Rows.laid_unicode_utf8_first = Lib.firstData := by kernel_rfl
theorem accept_eq : Rows.laid_unicode_utf8_acceptRanges (H := Unit) = Lib.acceptData := by kernel_rfl
theorem xU8 : U8Extra Tryz.prog Tryz.laysV_ren := ⟨by kernel_rfl, by kernel_rfl, by kernel_rfl, by kernel_rfl, by kernel_rfl, by kernel_rfl, by kernel_rfl⟩
/-- What the listed variables give the walks. -/
theorem env_of {W : World} (h : laidMet Tryz.prog Rows.indexChooseRow.laid W) : Lib.Utf8Tabs 1 2 W := by
  have r : ∀ {n : String} {d : DataW Unit}, (n, d) ∈ Rows.indexChooseRow.laid → Lib.VarReads Tryz.prog W n d := fun hm => Lib.laidMet.reads h hm
  have m6 : ("unicode/utf8.first", Rows.laid_unicode_utf8_first) ∈ Rows.indexChooseRow.laid := .tail _ (.head _)
  have m3 : ("unicode/utf8.acceptRanges", Rows.laid_unicode_utf8_acceptRanges) ∈ Rows.indexChooseRow.laid := .head _
  have r6 := r m6
  have r3 := r m3
  rw [first_eq] at r6
  rw [accept_eq] at r3
  exact utf8Tabs_of_readsT (U8Types.of196 Tryz.laysV196) xU8 r6 r3
theorem list_of {α : Type} {P : Nat → α → Prop} : ∀ len, (∀ j, j < len → ∃ s, P j s) → ∃ ss : List α, ss.length = len ∧ ∀ (j : Nat) s, ss[j]? = some s → P j s
  | 0, _ => ⟨[], rfl, fun j s h => by simp at h⟩
  | len + 1, h => by
    obtain ⟨ss, h1, h2⟩ := list_of len (fun j hj => h j (by omega))
    obtain ⟨s, hs⟩ := h len (by omega)
    refine ⟨ss ++ [s], by simp [h1], fun j u hj => ?_⟩
    by_cases hl : j < ss.length
    · rw [List.getElem?_append_left hl] at hj
      exact h2 j u hj
    · have hjl := (List.getElem?_eq_some_iff.1 hj).1
      simp at hjl
      obtain rfl : j = ss.length := by omega
      simp at hj
      subst hj
      rw [h1]
      exact hs
section
variable {H : Type} {enc : TypeId × Value → H} {w : World} {base : Nat} {spare : Nat → Bool} {held : Bool}
set_option maxRecDepth 100000 in
theorem open_row {t e : TypeId} {n : Nat} (hu : Tryz.prog.underlying t = some (.slice e)) (hc : Tryz.prog.cellsOf e = n) (hn : 0 < n) {a : Option Addr} {len cap : Nat} {d : DataW H} {p : List MemPlace} (h : DataW.Trod enc Tryz.prog w base spare held t (.slice a len cap) d p) (hw : ∀ k ∈ d.weights Tryz.prog t, k ≤ reachBytes) :
    len = 0 ∨ ∃ b o, a = some ⟨b, o, none⟩ ∧ ∀ j, j < len → ∃ fuel cs y, DataW.trod enc Tryz.prog w base spare held fuel e cs = some y ∧ (∀ k ∈ y.1.weights Tryz.prog e, k ≤ reachBytes) ∧ cs.length = n ∧ ∀ q, q < n → w.cell? ⟨b, o + j * n + q, none⟩ = cs[q]? := by
  obtain ⟨fuel, hf⟩ := h
  rcases DataW.trod_slice hu hf with ⟨hcs, _⟩ | ⟨a', len', cap', elems, rest, m', rfl, hcs, hx4, hb, hl, hm, hel, he, _, _⟩
  · simp [Value.cells] at hcs
    exact .inl hcs.2.1
  · simp [Value.cells] at hcs
    obtain ⟨rfl, rfl, rfl⟩ := hcs
    cases hx4
    by_cases h0 : len = 0
    · exact .inl h0
    have each : ∀ j, j < len → ∃ cs y, w.cells? base (a'.add (j * n)) n = some cs ∧ DataW.trod enc Tryz.prog w base spare held m' e cs = some y ∧ y ∈ elems := fun j hj => by
      have := he j hj
      rw [hc, List.getElem?_eq_getElem (by omega)] at this
      obtain ⟨cs', h1, h2⟩ := Option.bind_eq_some_iff.1 this
      exact ⟨cs', _, h1, h2, List.getElem_mem _⟩
    obtain ⟨b, o, spot⟩ := a'
    have hspot : spot = none := by
      obtain ⟨cs', y, h1, -⟩ := each 0 (by omega)
      obtain ⟨_, hl', hcell⟩ := World.cells?_some h1
      have h2 := hcell 0 hn
      rw [List.getElem?_eq_getElem (by omega)] at h2
      simpa [Addr.add] using World.cell?_spot (by simpa [Addr.add] using h2)
    subst hspot
    refine .inr ⟨b, o, rfl, fun j hj => ?_⟩
    obtain ⟨cs', y, h1, h2, hy⟩ := each j hj
    obtain ⟨_, hl', hcell⟩ := World.cells?_some h1
    refine ⟨m', cs', y, h2, fun k hk => hw k ?_, hl', fun q hq => ?_⟩
    · simp only [DataW.weights, hu, List.mem_cons, List.mem_append]
      exact .inr (.inl (weights_all _ _ _ _ (List.mem_map_of_mem hy) k hk))
    · have := hcell q hq
      rwa [add_off, add_off] at this
theorem spec_cells : Tryz.prog.cellsOf 37 = 3 := by kernel_rfl
theorem bool_cell : Tryz.prog.cellsOf 4 = 1 := by kernel_rfl
set_option maxRecDepth 100000 in
theorem open_spec {fuel : Nat} {cs : List Value} {x : DataW H × List MemPlace} (h : DataW.trod enc Tryz.prog w base spare held fuel 37 cs = some x) (hw : ∀ k ∈ x.1.weights Tryz.prog 37, k ≤ reachBytes) : ∃ s : Sp, cs = [.string s.nm, .string s.pt, .bool s.un] ∧ s.nm.size ≤ 140737488351232 ∧ s.pt.size ≤ 140737488351232 := by
  obtain ⟨xs, m, rfl, hx, hlen, hxl, hf⟩ := DataW.trod_struct Tryz.underlying37 h
  subst hx
  rw [spec_cells] at hlen
  match xs, hxl, cs, hlen with
  | [x0, x1, x2], _, [c0, c1, c2], _ =>
    have f0 : DataW.trod enc Tryz.prog w base spare held m 9 (([c0, c1, c2].drop 0).take (Tryz.prog.cellsOf 9)) = some x0 := hf 0 _ rfl
    have f1 : DataW.trod enc Tryz.prog w base spare held m 9 (([c0, c1, c2].drop 1).take (Tryz.prog.cellsOf 9)) = some x1 := hf 1 _ rfl
    have f2 : DataW.trod enc Tryz.prog w base spare held m 4 (([c0, c1, c2].drop 2).take (Tryz.prog.cellsOf 4)) = some x2 := hf 2 _ rfl
    rw [e_cells9] at f0 f1
    rw [bool_cell] at f2
    have hw0 : ∀ k ∈ x0.1.weights Tryz.prog 9, k ≤ reachBytes := fun k hk => hw k (by simp [DataW.weights, Tryz.underlying37, DataW.weightsEach, hk])
    have hw1 : ∀ k ∈ x1.1.weights Tryz.prog 9, k ≤ reachBytes := fun k hk => hw k (by simp [DataW.weights, Tryz.underlying37, DataW.weightsEach, hk])
    obtain ⟨s0, h0, hx0, -⟩ := DataW.trod_string Tryz.underlying9 f0
    obtain ⟨s1, h1, hx1, -⟩ := DataW.trod_string Tryz.underlying9 f1
    obtain ⟨u, h2, -⟩ := DataW.trod_bool Tryz.underlying4 f2
    cases h0
    cases h1
    cases h2
    subst hx0 hx1
    exact ⟨⟨s0, s1, u⟩, rfl, hw0 s0.size (by simp [DataW.weights]), hw1 s1.size (by simp [DataW.weights])⟩
set_option maxRecDepth 100000 in
theorem open_nd (hU : Lib.Utf8Tabs 1 2 w) (h8 : 3 ≤ w.heap.size) {fuel : Nat} {cs : List Value} {x : DataW H × List MemPlace} (h : DataW.trod enc Tryz.prog w base spare held fuel 30 cs = some x) (hw : ∀ k ∈ x.1.weights Tryz.prog 30, k ≤ reachBytes) : ∃ d : Nd, cs = d.cells ∧ NOk w d ∧ VRep w d.t (five d.k d.x d.s (.slice d.an d.ns.length d.cn) (.slice d.ai d.its.length d.ci)) := by
  obtain ⟨xs, m, rfl, hx, hlen, hxl, hf⟩ := DataW.trod_struct Tryz.underlying30 h
  subst hx
  rw [need_cells] at hlen
  match xs, hxl, cs, hlen with
  | [x0, x1, x2], _, [c0, c1, c2, c3, c4, c5, c6], _ =>
    have f0 : DataW.trod enc Tryz.prog w base spare held m 9 (([c0, c1, c2, c3, c4, c5, c6].drop 0).take (Tryz.prog.cellsOf 9)) = some x0 := hf 0 _ rfl
    have f1 : DataW.trod enc Tryz.prog w base spare held m 3 (([c0, c1, c2, c3, c4, c5, c6].drop 1).take (Tryz.prog.cellsOf 3)) = some x1 := hf 1 _ rfl
    have f2 : DataW.trod enc Tryz.prog w base spare held m 28 (([c0, c1, c2, c3, c4, c5, c6].drop 2).take (Tryz.prog.cellsOf 28)) = some x2 := hf 2 _ rfl
    rw [e_cells9] at f0
    rw [e_cells3] at f1
    rw [e_cells25] at f2
    have f2' : DataW.trod enc Tryz.prog w base spare held m 28 [c2, c3, c4, c5, c6] = some x2 := f2
    have hw2 : ∀ k ∈ x2.1.weights Tryz.prog 28, k ≤ reachBytes := fun k hk => hw k (by simp [DataW.weights, Tryz.underlying30, DataW.weightsEach, hk])
    obtain ⟨s0, h0, -, -⟩ := DataW.trod_string Tryz.underlying9 f0
    obtain ⟨i1, h1, -, -⟩ := DataW.trod_int Tryz.underlying3 f1
    cases h0
    cases h1
    obtain ⟨t, hV, hS⟩ := open_small m _ _ f2' hw2
    obtain ⟨k, x, s, ns, its⟩ := t
    have hV' := hV
    unfold VRep at hV
    obtain ⟨nm, a, c, h1, ⟨an, cn, rfl, _⟩, -, hI⟩ := hV
    have hS' := hS
    unfold SmallT at hS
    obtain ⟨hs1, hs2, hs3, hs4, hs5⟩ := hS
    rw [h1] at hV'
    refine ⟨⟨s0, i1, k, x, s, ns, its, an, cn, a, c⟩, ?_, ⟨hI, (show its.length ≤ 4611686018427387904 by omega), hs5, fun W hW => check_code _ k x s an _ cn a _ c W (VRep.keep hW _ _ hV') hS' (utf_below hU hW h8) (by have := hW.size; omega), fun W hW => ref_check _ k x s an _ cn a _ c W (VRep.keep hW _ _ hV') hS'⟩, hV'⟩
    simp only [Nd.cells]
    rw [show [Value.string s0, Value.int .i64 i1, c2, c3, c4, c5, c6] = [Value.string s0, Value.int .i64 i1] ++ [c2, c3, c4, c5, c6] from rfl, h1]
    rfl
end
set_option maxRecDepth 100000 in
theorem choose_lifted (os : Os) (started : os.Started) (H : Type) (enc : TypeId × Value → H) :
    ReturnsInHanded {} Tryz.checked os 5 .any (fun w args => (Rows.indexChooseSpec.pre enc Tryz.prog Tryz.f5 [] false w args ∧ laidMetH Tryz.prog Rows.indexChooseRow.laid w) ∧ sizedMet enc Tryz.prog Tryz.f5 (OpenSpec.ofChange Rows.indexChooseSpec) false w args)
      (Rows.indexChooseSpec.post enc Tryz.prog Tryz.f5 false true false false) := by
  refine returnsInHanded_of_change_and (C := Tryz.checked) (X := fun w _ => laidMetH Tryz.prog Rows.indexChooseRow.laid w) (fun _ _ _ hh h => h.of_heap hh) own_knob started (by kernel_rfl) Tryz.func5
    (ChangeSpec.witness_shaped (enc := enc) (C := Tryz.checked) (os := os) (X := fun w _ => laidMetH Tryz.prog Rows.indexChooseRow.laid w) false (World.laidAll Tryz.prog os Rows.indexChooseRow.laid) #[.slice none 0 0, .slice none 0 0] 8 (World.laidAll_os _ _ _)
      (World.shaped_of_ZipB (by kernel_rfl) (by kernel_rfl)) (by kernel_rfl) (by kernel_rfl) (by kernel_rfl)
      (by rw [MakeChecks.laidMetH_plain _ _ _ (by kernel_rfl)]; exact laidMet_laidAll _ (by kernel_rfl) (by kernel_rfl))) ?_
  intro W base args ds gs before hval0 hW _ hsz0 hL _
  have hval : ∀ (j : Nat) t v, Tryz.f5.params[j]? = some t → args[j]? = some v → Value.okWide Tryz.prog W .any base t v := hval0
  have hsz : (DataW.weightsEach Tryz.prog (Tryz.f5.params.toList ++ Rows.indexChooseSpec.plain.varTypes Tryz.prog) (ds ++ gs)).all (· ≤ reachBytes) = true := hsz0
  have hW' := hW
  obtain ⟨p, q, hA0, hV, rfl, _, _⟩ := hW
  have hA : DataW.TrodAll enc Tryz.prog W 0 (fun _ => true) true Tryz.f5.params.toList args.toList ds p := hA0
  rw [Tryz.params5] at hA hval hsz
  obtain ⟨v0, v1, d0, d1, p0, p1, rfl, rfl, rfl, h0, h1⟩ := trodAll_two hA
  obtain ⟨rfl, rfl⟩ := trodVars_none hV
  clear hA0 hval0 hsz0
  rw [MakeChecks.laidMetH_plain _ _ _ (by kernel_rfl)] at hL
  have hU := env_of hL
  have h8 : 3 ≤ W.heap.size := lt_of_cell (hU.2 0 (by decide)).1
  obtain ⟨a0, len0, cap0, rfl⟩ := okWide_slice Tryz.underlying45 (hval 0 45 v0 rfl rfl)
  obtain ⟨a1, len1, cap1, rfl⟩ := okWide_slice Tryz.underlying46 (hval 1 46 v1 rfl rfl)
  have hw0 : ∀ k ∈ d0.weights Tryz.prog 45, k ≤ reachBytes := fun k hk => of_decide_eq_true (List.all_eq_true.1 hsz _ (DataW.weights_mem_each (j := 0) rfl rfl k hk))
  have hw1 : ∀ k ∈ d1.weights Tryz.prog 46, k ≤ reachBytes := fun k hk => of_decide_eq_true (List.all_eq_true.1 hsz _ (DataW.weights_mem_each (j := 1) rfl rfl k hk))
  obtain ⟨ss, hl0, hss⟩ : ∃ ss : List Sp, ss.length = len0 ∧ SpecsAt W a0 ss ∧ ∀ s ∈ ss, s.nm.size ≤ 9223372036854775806 ∧ s.pt.size ≤ 140737488355328 := by
    rcases open_row Tryz.underlying45 spec_cells (by decide) h0 hw0 with hz | ⟨b, o, rfl, hE⟩
    · exact ⟨[], by rw [hz]; rfl, fun j s hj => by simp at hj, fun s hs => by cases hs⟩
    · obtain ⟨ss, e1, e2⟩ := list_of (P := fun j (s : Sp) => (W.cell? ⟨b, o + j * 3, none⟩ = some (.string s.nm) ∧ W.cell? ⟨b, o + j * 3 + 1, none⟩ = some (.string s.pt) ∧ W.cell? ⟨b, o + j * 3 + 2, none⟩ = some (.bool s.un)) ∧ s.nm.size ≤ 9223372036854775806 ∧ s.pt.size ≤ 140737488355328) len0 (fun j hj => by
        obtain ⟨fuel, cs, y, k1, k2, -, k4⟩ := hE j hj
        obtain ⟨s, rfl, z1, z2⟩ := open_spec k1 k2
        exact ⟨s, ⟨k4 0 (by decide), k4 1 (by decide), k4 2 (by decide)⟩, by omega, by omega⟩)
      refine ⟨ss, e1, fun j s hj => ⟨b, o, rfl, (e2 j s hj).1⟩, fun s hs => ?_⟩
      obtain ⟨j, hj⟩ := List.mem_iff_getElem?.1 hs
      exact (e2 j s hj).2
  obtain ⟨ns, hl1, hns, hok, hvs⟩ : ∃ ns : List Nd, ns.length = len1 ∧ NeedsAt W a1 ns ∧ (∀ d ∈ ns, NOk W d) ∧ ∀ d ∈ ns, VRep W d.t (five d.k d.x d.s (.slice d.an d.ns.length d.cn) (.slice d.ai d.its.length d.ci)) := by
    rcases open_row Tryz.underlying46 need_cells (by decide) h1 hw1 with hz | ⟨b, o, rfl, hE⟩
    · exact ⟨[], by rw [hz]; rfl, fun j s hj => by simp at hj, (fun s hs => by cases hs), (fun s hs => by cases hs)⟩
    · obtain ⟨ns, e1, e2⟩ := list_of (P := fun j (d : Nd) => (∀ (q : Nat) u, d.cells[q]? = some u → W.cell? ⟨b, o + j * 7 + q, none⟩ = some u) ∧ NOk W d ∧ VRep W d.t (five d.k d.x d.s (.slice d.an d.ns.length d.cn) (.slice d.ai d.its.length d.ci))) len1 (fun j hj => by
        obtain ⟨fuel, cs, y, k1, k2, k3, k4⟩ := hE j hj
        obtain ⟨d, rfl, z1, z2⟩ := open_nd hU h8 k1 k2
        exact ⟨d, fun q u hq => (k4 q (by have := (List.getElem?_eq_some_iff.1 hq).1; omega)).trans hq, z1, z2⟩)
      refine ⟨ns, e1, fun j s hj => ⟨b, o, rfl, (e2 j s hj).1⟩, fun s hs => ?_, fun s hs => ?_⟩
      · obtain ⟨j, hj⟩ := List.mem_iff_getElem?.1 hs
        exact (e2 j s hj).2.1
      · obtain ⟨j, hj⟩ := List.mem_iff_getElem?.1 hs
        exact (e2 j s hj).2.2
  subst hl0 hl1
  simp only [List.append_nil] at hW'
  have hlt0 : ∀ x ∈ p0, x.block < W.heap.size := fun x hx => by simpa using hW'.lt x (by simp [hx])
  have hlt1 : ∀ x ∈ p1, x.block < W.heap.size := fun x hx => by simpa using hW'.lt x (by simp [hx])
  refine (choose_true a0 cap0 ss a1 cap1 ns W hss.1 hss.2 hns hok hvs).mono fun e W' ⟨he, hb⟩ => ?_
  subst he
  exact ⟨_, rfl, _, _, _, [], _, [], hW', trodAll_mk1 (shut_bool Tryz.underlying4 _), trodAll_mk2 (Below.trod laid_out (by kernel_rfl) (of_decide_eq_true (by kernel_rfl)) h0 hb hlt0) (Below.trod laid_out (by kernel_rfl) (of_decide_eq_true (by kernel_rfl)) h1 hb hlt1), rfl, hb.frame _, fun h => by cases h⟩

theorem choose_holds : Rows.IndexChooseSaid :=
  OpenClaim.holds_of_wide 5 Tryz.f5 rfl rfl rfl rfl rfl rfl rfl ⟨rfl, rfl, rfl, rfl, rfl⟩ rfl rfl rfl rfl rfl (by kernel_rfl) Tryz.func5 (by kernel_rfl)
    (of_decide_eq_true (by kernel_rfl)) (by unfold Func.isWrapper; first | (rw [if_pos (by decide +kernel)]; kernel_rfl) | (rw [if_neg (by decide +kernel)]; exact ⟨rfl, rfl⟩))
    (fun os started H enc _ => choose_lifted os started H enc)
end Go.Proofs.YtnlljodmkacmlaaGreatDoor.Chk
namespace Go.Proofs.YtnlljodmkacmlaaGreatDoor
open Go
theorem choose_card : Rows.IndexChooseCardSaid :=
  Claim7.holds_tied_plain_at .later [] _ _ _ _ Chk.choose_holds (fun _ h => by cases h) (by kernel_rfl) (fun _ h => by cases h) indexChoose_row_tie rfl ⟨rfl, rfl⟩ (by kernel_rfl) rfl
    (fun f fn hf hfn => by
      obtain rfl : f = 5 := Option.some.inj ((show Tryz.prog.funcNamed "docket/docketlaw17.IndexChoose" = some 5 by kernel_rfl).symm.trans hf) |>.symm
      obtain rfl : fn = Tryz.f5 := (Option.some.inj (Tryz.func5.symm.trans hfn)).symm
      exact ⟨by kernel_rfl, fun j t ht => by
        rw [Tryz.params5] at ht
        rcases j with _ | _ | j
        · obtain rfl : t = 45 := by simpa using ht.symm
          kernel_rfl
        · obtain rfl : t = 46 := by simpa using ht.symm
          kernel_rfl
        · simp at ht⟩)
    (by kernel_rfl)
#print axioms choose_card
end Go.Proofs.YtnlljodmkacmlaaGreatDoor
