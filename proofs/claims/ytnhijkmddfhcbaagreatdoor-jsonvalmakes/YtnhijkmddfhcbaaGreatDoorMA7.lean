import Derived.Test.YtnhijkmddfhcbaaGreatDoorMA6
import Derived.Test.YtnhijkmddfhcbaaGreatDoorV5
import Derived.Test.YtnhijkmddfhcbaaGreatDoorRows
import Derived.Lib.LaidU8T
import Derived.Lib.LaidTab
import Derived.LaidLaws
import Derived.Lay
import Derived.KernelRfl
import Derived.ProofKit
import Derived.OpenShut
import Derived.MakeChecks
import Derived.SizedLaws
import Derived.Carry
import Derived.ChangeMaps5
/-! The row JsonvalMakes. -/
namespace Go.Proofs.YtnhijkmddfhcbaaGreatDoor
open Go Go.ChangeShapes Go.WideShapes Go.ChangeAt Go.RowKit
open Go.ChangeMaps (open_string)

theorem first_eq : Rows.laid_unicode_utf8_first = Lib.firstData := by kernel_rfl
theorem accept_eq : Rows.laid_unicode_utf8_acceptRanges (H := Unit) = Lib.acceptData := by kernel_rfl
theorem pow10_eq : Rows.laid_internal_strconv_uint64pow10 (H := Unit) = Lib.tabData .u64 Lib.pow10Tab := by kernel_rfl
theorem xU8 : U8Extra Tryz.prog Tryz.lays260_ren := ⟨by kernel_rfl, by kernel_rfl, by kernel_rfl, by kernel_rfl, by kernel_rfl, by kernel_rfl, by kernel_rfl⟩
theorem gSyn : Tryz.prog.globalNamed "strconv.ErrSyntax" = some 4 := by kernel_rfl
theorem gRng : Tryz.prog.globalNamed "strconv.ErrRange" = some 5 := by kernel_rfl
theorem gPow : Tryz.prog.globalNamed "internal/strconv.uint64pow10" = some 3 := by kernel_rfl
theorem tErr4 : (Tryz.prog.globals[4]?).map (·.type) = some 68 := by kernel_rfl
theorem tErr5 : (Tryz.prog.globals[5]?).map (·.type) = some 68 := by kernel_rfl
theorem tPow : (Tryz.prog.globals[3]?).map (·.type) = some 115 := by kernel_rfl
theorem err_reads {W : World} {n name : String} {g : Nat} {d : DataW Unit} (hg : Tryz.prog.globalNamed n = some g) (ht : (Tryz.prog.globals[g]?).map (·.type) = some 68) (h : Lib.VarReads Tryz.prog W n (.iface name d)) : ∃ tp p, W.cell? ⟨g, 0, none⟩ = some (.iface tp p) := by
  obtain ⟨g', t, cs, fuel, p, hg', hty, hvar, hd⟩ := h
  obtain rfl := Option.some.inj (hg.symm.trans hg')
  obtain rfl := Option.some.inj (ht.symm.trans hty)
  obtain ⟨_, u, v, hcs, _, _⟩ := iface_of_trod Tryz.underlying68 hd
  refine ⟨u, v, ?_⟩
  rw [World.var?_cell hg hvar 0, ← Array.getElem?_toList, hcs]
  rfl
theorem pow_reads {W : World} (h : Lib.VarReads Tryz.prog W "internal/strconv.uint64pow10" (Lib.tabData .u64 Lib.pow10Tab)) : Lib.TabIs Tryz.prog W "internal/strconv.uint64pow10" .u64 Lib.pow10Tab := by
  obtain ⟨g', t, cs, fuel, p, hg', hty, hvar, hd⟩ := h
  obtain rfl := Option.some.inj (gPow.symm.trans hg')
  obtain rfl := Option.some.inj (tPow.symm.trans hty)
  unfold Lib.TabIs
  rw [hvar, ← Lib.cells_of_tab Tryz.underlying115 Tryz.underlying95 (by kernel_rfl) (by kernel_rfl) hd]
theorem var_lt {W : World} {n : String} {g : Nat} {d : DataW Unit} (hg : Tryz.prog.globalNamed n = some g) (h : Lib.VarReads Tryz.prog W n d) : g < W.heap.size := by
  obtain ⟨g', t, cs, fuel, p, hg', hty, hvar, hd⟩ := h
  unfold World.var? at hvar
  rw [hg] at hvar
  simp only [Option.bind_some] at hvar
  cases e : W.heap[g]? with
  | none => rw [e] at hvar; cases hvar
  | some o => exact (Array.getElem?_eq_some_iff.1 e).1
theorem gBru : Tryz.prog.globalNamed "math/bits.deBruijn64tab" = some 7 := by kernel_rfl
/-- What the listed variables give the walks. -/
theorem env_of {W : World} (h : laidMet Tryz.prog Rows.jsonvalMakesRow.laid W) : Env W ∧ EnvP W := by
  have r : ∀ {n : String} {d : DataW Unit}, (n, d) ∈ Rows.jsonvalMakesRow.laid → Lib.VarReads Tryz.prog W n d := fun hm => Lib.laidMet.reads h hm
  have m5 : ("strconv.ErrSyntax", Rows.laid_strconv_ErrSyntax) ∈ Rows.jsonvalMakesRow.laid := .tail _ (.tail _ (.tail _ (.tail _ (.tail _ (.head _)))))
  have m4 : ("strconv.ErrRange", Rows.laid_strconv_ErrRange) ∈ Rows.jsonvalMakesRow.laid := .tail _ (.tail _ (.tail _ (.tail _ (.head _))))
  have m6 : ("unicode/utf8.first", Rows.laid_unicode_utf8_first) ∈ Rows.jsonvalMakesRow.laid := .tail _ (.tail _ (.tail _ (.tail _ (.tail _ (.tail _ (.head _))))))
  have m3 : ("unicode/utf8.acceptRanges", Rows.laid_unicode_utf8_acceptRanges) ∈ Rows.jsonvalMakesRow.laid := .tail _ (.tail _ (.tail _ (.head _)))
  have m2 : ("internal/strconv.uint64pow10", Rows.laid_internal_strconv_uint64pow10) ∈ Rows.jsonvalMakesRow.laid := .tail _ (.tail _ (.head _))
  have r6 := r m6
  have r3 := r m3
  have r2 := r m2
  rw [first_eq] at r6
  rw [accept_eq] at r3
  rw [pow10_eq] at r2
  have hu := utf8Tabs_of_readsT (U8Types.of260 Tryz.lays260) xU8 r6 r3
  obtain ⟨tp, q, hrg⟩ := err_reads gRng tErr5 (r m4)
  have m1 : ("math/bits.deBruijn64tab", Rows.laid_math_bits_deBruijn64tab) ∈ Rows.jsonvalMakesRow.laid := .tail _ (.head _)
  have hbig : 8 ≤ W.heap.size := var_lt gBru (r m1)
  exact ⟨⟨err_reads gSyn tErr4 (r m5), ⟨tp, q, hrg⟩, hu⟩, ⟨hu, pow_reads r2, hbig⟩⟩
theorem own : ownKnob Tryz.prog.godebug = none := by kernel_rfl
theorem laid_out : laidOutB Tryz.prog = true := by kernel_rfl
theorem read_val : Tryz.prog.readableRec 26 = true := by kernel_rfl
set_option maxRecDepth 100000 in
theorem arg_texts {H : Type} {enc : TypeId × Value → H} {W : World} {base : Nat} {v : Value} {d : DataW H} {p : List MemPlace} {ts : List TypeId} {ds : List (DataW H)} {j : Nat} (hok : Value.okWide Tryz.prog W .any base 22 v)
    (h : DataW.Trod enc Tryz.prog W 0 (fun _ => true) true 22 v d p) (hsz : (DataW.weightsEach Tryz.prog ts ds).all (· ≤ reachBytes) = true) (ht : ts[j]? = some 22) (hd : ds[j]? = some d) :
    ∃ a c l, v = .slice a (List.length l) c ∧ Tree.Reads W (.slice a (List.length l) c) l ∧ l.length * 16 ≤ 140737488351232 ∧ ∀ s ∈ l, s.size ≤ 140737488351232 := by
  obtain ⟨a, len, cap, rfl⟩ := okWide_slice Tryz.underlying22 hok
  obtain ⟨fuel, hf⟩ := h
  obtain ⟨l, hR, h1, h2⟩ := Tree.reads_small hf (fun k hk => of_decide_eq_true (List.all_eq_true.1 hsz _ (DataW.weights_mem_each ht hd k hk)))
  obtain ⟨a', c', e, hc, hA⟩ := id hR
  cases e
  exact ⟨a, cap, l, rfl, hR, h1, h2⟩
set_option maxRecDepth 100000 in
theorem arg_items {H : Type} {enc : TypeId × Value → H} {W : World} {base : Nat} {v : Value} {d : DataW H} {p : List MemPlace} {ts : List TypeId} {ds : List (DataW H)} {j : Nat} (hok : Value.okWide Tryz.prog W .any base 23 v)
    (h : DataW.Trod enc Tryz.prog W 0 (fun _ => true) true 23 v d p) (hsz : (DataW.weightsEach Tryz.prog ts ds).all (· ≤ reachBytes) = true) (ht : ts[j]? = some 23) (hd : ds[j]? = some d) :
    ∃ a c its, v = .slice a (List.length its) c ∧ (List.length its ≤ c ∧ c ≤ 9223372036854775807) ∧ (its = [] ∨ ∃ b o, a = some ⟨b, o, none⟩ ∧ b < W.heap.size ∧ Tree.VRepL W b o its) ∧ its.length * 80 ≤ 140737488351232 ∧ Tree.SmallL its := by
  obtain ⟨a0, len0, cap0, rfl⟩ := okWide_slice Tryz.underlying23 hok
  obtain ⟨fuel, hf⟩ := h
  have hw : ∀ k ∈ d.weights Tryz.prog 23, k ≤ reachBytes := fun k hk => of_decide_eq_true (List.all_eq_true.1 hsz _ (DataW.weights_mem_each ht hd k hk))
  rcases DataW.trod_slice Tryz.underlying23 hf with ⟨hcs, _⟩ | ⟨a, len, cap, elems, rest, m', rfl, hcs, hx4, hb, hl, hm, hel, he, _, _⟩
  · cases hcs
    exact ⟨none, 0, [], rfl, ⟨Nat.le_refl _, by decide⟩, .inl rfl, by simp, by unfold Tree.SmallL; trivial⟩
  · cases hcs
    have hx5 := congrArg (fun q : DataW H × List MemPlace => q.1) hx4
    simp only at hx5
    subst hx5
    have hr := hw ((elems.map (·.1)).length + (rest.map (·.1)).length |> (· * Tryz.prog.bytesOf 26)) (by simp [DataW.weights, Tryz.underlying23])
    simp only [List.length_map, hel, Tree.e_bytes25, reachBytes] at hr
    by_cases hl0 : len0 = 0
    · subst hl0
      exact ⟨some a, cap0, [], rfl, ⟨Nat.zero_le _, by unfold maxLen at hm; omega⟩, .inl rfl, by simp, by unfold Tree.SmallL; trivial⟩
    · have each : ∀ j, j < len0 → ∃ cs' y, W.cells? 0 (a.add (j * 5)) 5 = some cs' ∧ DataW.trod enc Tryz.prog W 0 (fun _ => true) true m' 26 cs' = some y ∧ y ∈ elems := fun j hj => by
        have := he j hj
        rw [Tree.e_cells25, List.getElem?_eq_getElem (by omega)] at this
        obtain ⟨cs', h1, h2⟩ := Option.bind_eq_some_iff.1 this
        exact ⟨cs', _, h1, h2, List.getElem_mem _⟩
      obtain ⟨b, o, spot⟩ := a
      have hspot : spot = none := by
        obtain ⟨cs', y, h1, -⟩ := each 0 (by omega)
        exact Tree.spot_of h1
      subst hspot
      obtain ⟨its, h3, h4, hsm⟩ := Tree.items_small (W := W) (b := b) len0 o (fun j hj => by
        obtain ⟨cs', y, h1, h2, hy⟩ := each j hj
        obtain ⟨t, ht, hts⟩ := Tree.open_small m' cs' y h2 (fun k hk => hw k (by
          simp only [DataW.weights, Tryz.underlying23, List.mem_cons, List.mem_append]
          exact .inr (.inl (Tree.weights_all _ _ _ _ (List.mem_map_of_mem hy) k hk))))
        rw [Tree.add_off, Nat.mul_comm] at h1
        exact ⟨cs', t, (Tree.cellsAt_of h1).1, ht, hts⟩)
      subst h3
      have hblt : b < W.heap.size := by
        obtain ⟨cs', y, h1, -⟩ := each 0 (by omega)
        rw [Tree.add_off] at h1
        obtain ⟨h5, h6⟩ := Tree.cellsAt_of h1
        obtain ⟨d0, d1, d2, d3, d4, rfl⟩ := Tree.five_of h6
        exact Tree.lt_of_cell (h5 0 d0 rfl)
      exact ⟨_, cap0, its, rfl, ⟨hl, by unfold maxLen at hm; omega⟩, .inr ⟨b, o, rfl, hblt, h4⟩, by omega, hsm⟩
set_option maxRecDepth 100000 in
theorem makes_lifted (os : Os) (started : os.Started) (H : Type) (enc : TypeId × Value → H) :
    ReturnsInHanded {} Tryz.checked os 3 .any (fun w args => (Rows.jsonvalMakesSpec.pre enc Tryz.prog Tryz.f3 [] false w args ∧ laidMetH Tryz.prog Rows.jsonvalMakesRow.laid w) ∧ sizedMet enc Tryz.prog Tryz.f3 (OpenSpec.ofChange Rows.jsonvalMakesSpec) false w args)
      (Rows.jsonvalMakesSpec.post enc Tryz.prog Tryz.f3 false true false false) := by
  refine returnsInHanded_of_change_and (C := Tryz.checked) (X := fun w _ => laidMetH Tryz.prog Rows.jsonvalMakesRow.laid w) (fun _ _ _ hh h => h.of_heap hh) own started (by kernel_rfl) Tryz.func3
    (ChangeSpec.witness_shaped (enc := enc) (C := Tryz.checked) (os := os) (X := fun w _ => laidMetH Tryz.prog Rows.jsonvalMakesRow.laid w) false (World.laidAll Tryz.prog os Rows.jsonvalMakesRow.laid) #[.slice none 0 0, .slice none 0 0, .int .i64 0, .string ⟨#[]⟩] 8 (World.laidAll_os _ _ _)
      (World.shaped_of_ZipB (by kernel_rfl) (by kernel_rfl)) (by kernel_rfl) (by kernel_rfl) (by kernel_rfl)
      (by rw [MakeChecks.laidMetH_plain _ _ _ (by kernel_rfl)]; exact laidMet_laidAll _ (by kernel_rfl) (by kernel_rfl))) ?_
  intro W base args ds gs before hval0 hW _ hsz0 hL _
  have hval : ∀ (j : Nat) t v, Tryz.f3.params[j]? = some t → args[j]? = some v → Value.okWide Tryz.prog W .any base t v := hval0
  have hsz : (DataW.weightsEach Tryz.prog (Tryz.f3.params.toList ++ Rows.jsonvalMakesSpec.plain.varTypes Tryz.prog) (ds ++ gs)).all (· ≤ reachBytes) = true := hsz0
  have hW' := hW
  obtain ⟨p, q, hA0, hV, rfl, _, _⟩ := hW
  have hA : DataW.TrodAll enc Tryz.prog W 0 (fun _ => true) true Tryz.f3.params.toList args.toList ds p := hA0
  rw [Tryz.params3] at hA hval hsz
  obtain ⟨v0, v1, v2, v3, d0, d1, d2, d3, p0, p1, p2, p3, rfl, rfl, rfl, h0, h1, h2, h3⟩ := trodAll_four hA
  obtain ⟨rfl, rfl⟩ := trodVars_none hV
  clear hA0 hval0 hsz0
  obtain ⟨an, cn, ns, rfl, hR, hn1, hn2⟩ := arg_texts (j := 0) (hval 0 22 v0 rfl rfl) h0 hsz rfl rfl
  obtain ⟨ai, ci, its, rfl, hc, hI, hi1, hi2⟩ := arg_items (j := 1) (hval 1 23 v1 rfl rfl) h1 hsz rfl rfl
  obtain ⟨n, rfl, rfl, rfl, -⟩ := open_int Tryz.underlying2 (hval 2 2 v2 rfl rfl) h2
  obtain ⟨s2, rfl, rfl, rfl, hs2⟩ := open_string Tryz.underlying9 (hval 3 9 v3 rfl rfl) h3
  simp only [List.append_nil] at hW'
  have hlt0 : ∀ x ∈ p0, x.block < W.heap.size := fun x hx => by simpa using hW'.lt x (by simp [hx])
  have hlt1 : ∀ x ∈ p1, x.block < W.heap.size := fun x hx => by simpa using hW'.lt x (by simp [hx])
  rw [MakeChecks.laidMetH_plain _ _ _ (by kernel_rfl)] at hL
  obtain ⟨hE, hP⟩ := env_of hL
  have hV1 : Hid (Tree.VRep W (.node 0 0 ⟨#[]⟩ ns its) (Tree.five 0 0 ⟨#[]⟩ (.slice an ns.length cn) (.slice ai its.length ci))) := by
    rw [Hid]
    unfold Tree.VRep
    exact ⟨_, ai, ci, rfl, hR, hc, hI⟩
  have hS1 : Hid (Tree.SmallT (.node 0 0 ⟨#[]⟩ ns its)) := by
    rw [Hid]
    unfold Tree.SmallT
    exact ⟨by decide, hn1, hn2, hi1, hi2⟩
  refine (Tree.makes_true an cn ai ci ns its n s2 W hV1 hS1 hE hP).mono fun e W' ⟨he, hb⟩ => ?_
  subst he
  exact ⟨_, rfl, _, _, _, [], _, [], hW', trodAll_mk1 (shut_bool Tryz.underlying4 _), trodAll_mk4 (Below.trod laid_out (by kernel_rfl) (of_decide_eq_true (by kernel_rfl)) h0 hb hlt0) (Below.trod laid_out (by kernel_rfl) (of_decide_eq_true (by kernel_rfl)) h1 hb hlt1) (Below.trod laid_out (by kernel_rfl) (of_decide_eq_true (by kernel_rfl)) h2 hb (fun x hx => by simp at hx)) (Below.trod laid_out (by kernel_rfl) (of_decide_eq_true (by kernel_rfl)) h3 hb (fun x hx => by simp at hx)), rfl, hb.frame _, fun h => by cases h⟩

theorem makes_holds : Rows.JsonvalMakesSaid :=
  OpenClaim.holds_of_wide 3 Tryz.f3 rfl rfl rfl rfl rfl rfl rfl ⟨rfl, rfl, rfl, rfl, rfl⟩ rfl rfl rfl rfl rfl (by kernel_rfl) Tryz.func3 (by kernel_rfl)
    (of_decide_eq_true (by kernel_rfl)) (by unfold Func.isWrapper; first | (rw [if_pos (by decide +kernel)]; kernel_rfl) | (rw [if_neg (by decide +kernel)]; exact ⟨rfl, rfl⟩))
    (fun os started H enc _ => makes_lifted os started H enc)
end Go.Proofs.YtnhijkmddfhcbaaGreatDoor
