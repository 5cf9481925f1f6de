import Derived.Test.YtgjemghfejaifaaGreatDoorSN
/-! schema: one rule read, by every word. -/
namespace Go.Proofs.YtgjemghfejaifaaGreatDoor
open Go Go.RowKit

/-- What a rule's reading leaves: how many there are, the error, what was made. -/
def RuleQ (w : World) (br m : Nat) (res : Nat × Int) (j : Nat) (t : Tr) (v : Value) (z : Int) (w' : World) : Prop :=
  Fr (fun b => b = br) w w' ∧ ReaderAt w' br m res.1 ∧ res.1 ≤ 128 ∧ z = res.2 ∧ (res.2 = 0 → RuleR w' (fun k => w.heap.size ≤ k ∧ k < w'.heap.size) j t v)
theorem RuleR.some {w : World} {S : Nat → Prop} {j : Nat} {t : Tr} {v : Value} (h : RuleR w S j t v) : ∃ ty x, v = .iface ty x := by
  obtain ⟨k, x, s, ns, its⟩ := t
  unfold RuleR at h
  exact h.1
theorem ruleQ_of {w W w' : World} {br m d n j : Nat} {t : Tr} {e : Ending} (hF : Fr (fun b => b = br) w W) (h : RulePost W br m d n j t e w') : ∃ v z, e = .returned (.tuple #[v, .int .i64 z]) ∧ RuleQ w br m (ruleS d n j t) j t v z w' := by
  obtain ⟨v, h1, h2⟩ := h.ret
  have hs := hF.size
  exact ⟨v, _, h1, hF.trans h.fr, h.rd, h.le, rfl, fun e => RuleR.keep (fun _ _ _ => rfl) (fun k hk => ⟨by omega, hk.2⟩) _ _ _ (h2 e)⟩
/-- A maker that makes no more than new memory. -/
theorem ruleQ_plain {w W w' : World} {br m n j : Nat} {t : Tr} {v : Value} {z z' : Int} (hF : Fr (fun b => b = br) w W) (hR : ReaderAt W br m n) (hn : n ≤ 128) (hb : Below W.heap.size W w') (hz : z = z') (h3 : j ≠ 3) (h10 : j ≠ 10) (hv : z = 0 → ∃ ty x, v = .iface ty x) : RuleQ w br m (n, z') j t v z w' := by
  subst hz
  refine ⟨hF.trans (Fr.of_below hb), hR.keep hb, hn, rfl, fun e => ?_⟩
  obtain ⟨ty, x, rfl⟩ := hv e
  exact ruleR_other h3 h10 _ _ _
theorem vrep_int {w : World} {t : Tr} {v : V5} (h : VRep w t v.cs) : t.int = v.x := by
  obtain ⟨k, x, s, ns, is⟩ := t
  unfold VRep V5.cs five at h
  obtain ⟨nm, a, c, e, -⟩ := h
  simp only [List.cons.injEq, Value.int.injEq, Value.string.injEq, true_and] at e
  exact e.2.1.symm
theorem no_0 : wordNo wType = 0 := by decide +kernel
theorem no_1 : wordNo wEnum = 1 := by decide +kernel
theorem no_2 : wordNo wRequired = 2 := by decide +kernel
theorem no_3 : wordNo wProperties = 3 := by decide +kernel
theorem no_4 : wordNo wAdditional = 4 := by decide +kernel
theorem no_5 : wordNo wItems = 5 := by decide +kernel
theorem no_6 : wordNo wMinItems = 6 := by decide +kernel
theorem no_7 : wordNo wMaxItems = 7 := by decide +kernel
theorem no_8 : wordNo wMinLength = 8 := by decide +kernel
theorem no_9 : wordNo wMaxLength = 9 := by decide +kernel
theorem no_10 : wordNo wMinimum = 10 := by decide +kernel
theorem no_11 : wordNo wMaximum = 11 := by decide +kernel
theorem no_12 : wordNo wDivisible = 12 := by decide +kernel
theorem no_13 : wordNo wAnyOf = 13 := by decide +kernel
theorem no_14 : wordNo wAllOf = 14 := by decide +kernel
theorem no_15 : wordNo wNot = 15 := by decide +kernel
theorem no_16 {s : ByteArray} (h : s ≠ wType ∧ s ≠ wEnum ∧ s ≠ wRequired ∧ s ≠ wProperties ∧ s ≠ wAdditional ∧ s ≠ wItems ∧ s ≠ wMinItems ∧ s ≠ wMaxItems ∧ s ≠ wMinLength ∧ s ≠ wMaxLength ∧ s ≠ wMinimum ∧ s ≠ wMaximum ∧ s ≠ wDivisible ∧ s ≠ wAnyOf ∧ s ≠ wAllOf ∧ s ≠ wNot) : wordNo s = 16 := by
  obtain ⟨h0, h1, h2, h3, h4, h5, h6, h7, h8, h9, h10, h11, h12, h13, h14, h15⟩ := h
  unfold wordNo
  simp [h0, h1, h2, h3, h4, h5, h6, h7, h8, h9, h10, h11, h12, h13, h14, h15]
theorem en_type (args : Array Value) (W : World) : (callFunc 28 args).run Tryz.prog W = .ok (.enter 28 args) W := enters_of Tryz.func28 (by kernel_rfl) rfl args W
theorem en_enum (args : Array Value) (W : World) : (callFunc 29 args).run Tryz.prog W = .ok (.enter 29 args) W := enters_of Tryz.func29 (by kernel_rfl) rfl args W
theorem en_required (args : Array Value) (W : World) : (callFunc 30 args).run Tryz.prog W = .ok (.enter 30 args) W := enters_of Tryz.func30 (by kernel_rfl) rfl args W
theorem en_properties (args : Array Value) (W : World) : (callFunc 31 args).run Tryz.prog W = .ok (.enter 31 args) W := enters_of Tryz.func31 (by kernel_rfl) rfl args W
theorem en_additional (args : Array Value) (W : World) : (callFunc 32 args).run Tryz.prog W = .ok (.enter 32 args) W := enters_of Tryz.func32 (by kernel_rfl) rfl args W
theorem en_items (args : Array Value) (W : World) : (callFunc 33 args).run Tryz.prog W = .ok (.enter 33 args) W := enters_of Tryz.func33 (by kernel_rfl) rfl args W
theorem en_minItems (args : Array Value) (W : World) : (callFunc 56 args).run Tryz.prog W = .ok (.enter 56 args) W := enters_of Tryz.func56 (by kernel_rfl) rfl args W
theorem en_minLength (args : Array Value) (W : World) : (callFunc 57 args).run Tryz.prog W = .ok (.enter 57 args) W := enters_of Tryz.func57 (by kernel_rfl) rfl args W
theorem en_minimum (args : Array Value) (W : World) : (callFunc 58 args).run Tryz.prog W = .ok (.enter 58 args) W := enters_of Tryz.func58 (by kernel_rfl) rfl args W
theorem en_anyOf (args : Array Value) (W : World) : (callFunc 40 args).run Tryz.prog W = .ok (.enter 40 args) W := enters_of Tryz.func40 (by kernel_rfl) rfl args W
theorem en_allOf (args : Array Value) (W : World) : (callFunc 41 args).run Tryz.prog W = .ok (.enter 41 args) W := enters_of Tryz.func41 (by kernel_rfl) rfl args W
theorem en_not (args : Array Value) (W : World) : (callFunc 42 args).run Tryz.prog W = .ok (.enter 42 args) W := enters_of Tryz.func42 (by kernel_rfl) rfl args W
set_option maxHeartbeats 4000000 in
set_option maxRecDepth 100000 in
theorem rule_any (w0 : World) (br m d n : Nat) (s : ByteArray) (t bt : Tr) (u b : V5) (w : World) (h : Gv w0 w br m d n t u) (hb : VRep w0 bt b.cs) (hbs : SmallT bt) (hO : SchemaOk w0 t) (hOs : ∀ t' ∈ t.items, SchemaOk w0 t') :
    Calls Tryz.prog 43 #[.pointer (some ⟨br, 0, none⟩), .string s, givenV u b d] w fun e w' => ∃ v z, e = .returned (.tuple #[v, .int .i64 z]) ∧ RuleQ w br m (if n = 128 then (128, 211) else ruleS d (n + 1) (wordNo s) t) (wordNo s) t v z w' := by
  by_cases hn : n = 128
  · subst hn
    rw [if_pos rfl]
    refine (rule_many br m d s u b w h.rd).mono ?_
    rintro e w' ⟨rfl, hB⟩
    exact ⟨_, _, rfl, Fr.of_below hB, h.rd.keep hB, by decide, rfl, fun e => by cases e⟩
  rw [if_neg hn]
  have hn' : n < 128 := by have := h.le; omega
  obtain ⟨⟨b0, b1, b2, b3, b4, b5, b6, hT, hbb⟩, hmb⟩ := h.env.tab
  have hg : ∀ W, Fr (fun b => b = br) w W → ReaderAt W br m (n + 1) → Gv w0 W br m d (n + 1) t u := fun W hF hR => ⟨h.d8, by omega, h.rep, h.small, h.names, h.env.fr hF, hR⟩
  have hkd := vrep_head h.rep
  obtain ⟨hrow, hli⟩ := rep_row h.rep
  have hsm := small_parts h.small
  have hpos : (u.k = 5 ∧ 0 < u.li) = (t.kind = 5 ∧ t.items ≠ []) := by
    rw [hkd.1, hli]
    simp [List.length_pos_iff]
  rcases MapKept.findNow_spec (d := .string) (k := .string s) (by simp [MapKept.IsKey]) (entriesS b0 b1 b2 b3 b4 b5 b6).toList 0 (by intro x hx; simp [entriesS] at hx; rcases hx with rfl | rfl | rfl | rfl | rfl | rfl | rfl | rfl | rfl | rfl | rfl | rfl | rfl | rfl | rfl | rfl <;> simp [MapKept.IsKey]) with ⟨hf, hno⟩ | ⟨i, e, hf, hl, hk⟩
  · have h16 : wordNo s = 16 := no_16 ⟨fun e => hno _ (List.mem_of_getElem? (show (entriesS b0 b1 b2 b3 b4 b5 b6).toList[0]? = some _ from rfl)) (by rw [e]), fun e => hno _ (List.mem_of_getElem? (show (entriesS b0 b1 b2 b3 b4 b5 b6).toList[1]? = some _ from rfl)) (by rw [e]), fun e => hno _ (List.mem_of_getElem? (show (entriesS b0 b1 b2 b3 b4 b5 b6).toList[2]? = some _ from rfl)) (by rw [e]), fun e => hno _ (List.mem_of_getElem? (show (entriesS b0 b1 b2 b3 b4 b5 b6).toList[3]? = some _ from rfl)) (by rw [e]), fun e => hno _ (List.mem_of_getElem? (show (entriesS b0 b1 b2 b3 b4 b5 b6).toList[4]? = some _ from rfl)) (by rw [e]), fun e => hno _ (List.mem_of_getElem? (show (entriesS b0 b1 b2 b3 b4 b5 b6).toList[5]? = some _ from rfl)) (by rw [e]), fun e => hno _ (List.mem_of_getElem? (show (entriesS b0 b1 b2 b3 b4 b5 b6).toList[6]? = some _ from rfl)) (by rw [e]), fun e => hno _ (List.mem_of_getElem? (show (entriesS b0 b1 b2 b3 b4 b5 b6).toList[7]? = some _ from rfl)) (by rw [e]), fun e => hno _ (List.mem_of_getElem? (show (entriesS b0 b1 b2 b3 b4 b5 b6).toList[8]? = some _ from rfl)) (by rw [e]), fun e => hno _ (List.mem_of_getElem? (show (entriesS b0 b1 b2 b3 b4 b5 b6).toList[9]? = some _ from rfl)) (by rw [e]), fun e => hno _ (List.mem_of_getElem? (show (entriesS b0 b1 b2 b3 b4 b5 b6).toList[10]? = some _ from rfl)) (by rw [e]), fun e => hno _ (List.mem_of_getElem? (show (entriesS b0 b1 b2 b3 b4 b5 b6).toList[11]? = some _ from rfl)) (by rw [e]), fun e => hno _ (List.mem_of_getElem? (show (entriesS b0 b1 b2 b3 b4 b5 b6).toList[12]? = some _ from rfl)) (by rw [e]), fun e => hno _ (List.mem_of_getElem? (show (entriesS b0 b1 b2 b3 b4 b5 b6).toList[13]? = some _ from rfl)) (by rw [e]), fun e => hno _ (List.mem_of_getElem? (show (entriesS b0 b1 b2 b3 b4 b5 b6).toList[14]? = some _ from rfl)) (by rw [e]), fun e => hno _ (List.mem_of_getElem? (show (entriesS b0 b1 b2 b3 b4 b5 b6).toList[15]? = some _ from rfl)) (by rw [e])⟩
    rw [h16]
    refine (rule_none br m n d s u b _ _ w h.rd hn' hT.map (by omega) hf).mono ?_
    rintro e w' ⟨rfl, hR, hF⟩
    refine ⟨_, _, rfl, ?_⟩
    rw [rule_pos]
    simp only [Nat.reduceEqDiff, if_false, if_true, or_self]
    exact ⟨hF, hR, by show n + 1 ≤ 128; omega, rfl, fun e => by cases e⟩
  rw [Nat.zero_add] at hf
  have hi : i < 16 := by
    have := (List.getElem?_eq_some_iff.1 hl).1
    simpa [entriesS] using this
  match i, hi, hl, hf with
  | 0, _, hl, hf =>
    have he : e = (entriesS b0 b1 b2 b3 b4 b5 b6)[0] := by simpa [entriesS] using hl.symm
    subst he
    have hs : s = wType := by simpa [entriesS] using hk.symm
    subst hs
    rw [no_0]
    refine rule_found br m n d 0 28 #[] _ u b _ _ w h.rd hn' hT.map (by omega) hf en_type _ fun W hF hR => ?_
    refine (types_any _ u b d t W (VRep.keep (hg W hF hR).env.old _ _ h.rep) (hg W hF hR).env.tys (by omega)).mono ?_
    rintro e w' ⟨v, z, rfl, hz, hB, hv⟩
    refine ⟨v, z, rfl, ?_⟩
    have hr : ruleS d (n + 1) 0 t = (n + 1, typeZ u.k u.s t.items) := by
      rw [rule_pos]
      simp only [Nat.reduceEqDiff, if_false, if_true]
      unfold typeZ
      rw [hkd.1, hkd.2]
    rw [hr]
    exact ruleQ_plain hF hR (by omega) hB hz (by decide) (by decide) hv
  | 1, _, hl, hf =>
    have he : e = (entriesS b0 b1 b2 b3 b4 b5 b6)[1] := by simpa [entriesS] using hl.symm
    subst he
    have hs : s = wEnum := by simpa [entriesS] using hk.symm
    subst hs
    rw [no_1]
    refine rule_found br m n d 1 29 #[] _ u b _ _ w h.rd hn' hT.map (by omega) hf en_enum _ fun W hF hR => ?_
    refine (enum_any _ u b d W).mono ?_
    rintro e w' ⟨v, z, rfl, hz, hv', hB⟩
    refine ⟨v, z, rfl, ?_⟩
    have hr : ruleS d (n + 1) 1 t = (n + 1, someZ u) := by
      rw [rule_pos]
      simp only [Nat.reduceEqDiff, if_false, if_true]
      unfold someZ
      simp only [hpos]
    rw [hr]
    exact ruleQ_plain hF hR (by omega) hB hz (by decide) (by decide) (fun e => ⟨_, _, hv' e⟩)
  | 2, _, hl, hf =>
    have he : e = (entriesS b0 b1 b2 b3 b4 b5 b6)[2] := by simpa [entriesS] using hl.symm
    subst he
    have hs : s = wRequired := by simpa [entriesS] using hk.symm
    subst hs
    rw [no_2]
    refine rule_found br m n d 2 30 #[] _ u b _ _ w h.rd hn' hT.map (by omega) hf en_required _ fun W hF hR => ?_
    refine (required_any _ u b d t.items W hli (RowT.keep hrow (hg W hF hR).env.old) hsm.2.2.2.1 (by omega)).mono ?_
    rintro e w' ⟨v, z, rfl, hz, hB, hv⟩
    refine ⟨v, z, rfl, ?_⟩
    have hr : ruleS d (n + 1) 2 t = (n + 1, reqZ u.k t.items) := by
      rw [rule_pos]
      simp only [Nat.reduceEqDiff, if_false, if_true]
      unfold reqZ
      rw [hkd.1]
    rw [hr]
    exact ruleQ_plain hF hR (by omega) hB hz (by decide) (by decide) hv
  | 3, _, hl, hf =>
    have he : e = (entriesS b0 b1 b2 b3 b4 b5 b6)[3] := by simpa [entriesS] using hl.symm
    subst he
    have hs : s = wProperties := by simpa [entriesS] using hk.symm
    subst hs
    rw [no_3]
    refine rule_found br m n d 3 31 #[] _ u b _ _ w h.rd hn' hT.map (by omega) hf en_properties _ fun W hF hR => ?_
    exact (made_props w0 br m d (n + 1) t u b W (hg W hF hR) hOs).mono fun e w' hP => ruleQ_of hF hP
  | 4, _, hl, hf =>
    have he : e = (entriesS b0 b1 b2 b3 b4 b5 b6)[4] := by simpa [entriesS] using hl.symm
    subst he
    have hs : s = wAdditional := by simpa [entriesS] using hk.symm
    subst hs
    rw [no_4]
    refine rule_found br m n d 4 32 #[] _ u b _ _ w h.rd hn' hT.map (by omega) hf en_additional _ fun W hF hR => ?_
    refine (additional_any _ u b d bt W (VRep.keep (hg W hF hR).env.old _ _ hb) hbs).mono ?_
    rintro e w' ⟨v, z, rfl, hz, hB, hv⟩
    refine ⟨v, z, rfl, ?_⟩
    have hr : ruleS d (n + 1) 4 t = (n + 1, addZ u.k) := by
      rw [rule_pos]
      simp only [Nat.reduceEqDiff, if_false, if_true]
      unfold addZ
      rw [hkd.1]
    rw [hr]
    exact ruleQ_plain hF hR (by omega) hB hz (by decide) (by decide) hv
  | 5, _, hl, hf =>
    have he : e = (entriesS b0 b1 b2 b3 b4 b5 b6)[5] := by simpa [entriesS] using hl.symm
    subst he
    have hs : s = wItems := by simpa [entriesS] using hk.symm
    subst hs
    rw [no_5]
    refine rule_found br m n d 5 33 #[] _ u b _ _ w h.rd hn' hT.map (by omega) hf en_items _ fun W hF hR => ?_
    exact (made_items w0 br m d (n + 1) t u b W (hg W hF hR) hO).mono fun e w' hP => ruleQ_of hF hP
  | 6, _, hl, hf =>
    have he : e = (entriesS b0 b1 b2 b3 b4 b5 b6)[6] := by simpa [entriesS] using hl.symm
    subst he
    have hs : s = wMinItems := by simpa [entriesS] using hk.symm
    subst hs
    rw [no_6]
    refine rule_found br m n d 6 56 #[.pointer (some ⟨b0, 0, none⟩), .pointer (some ⟨b0 + 1, 0, none⟩)] _ u b _ _ w h.rd hn' hT.map (by omega) hf en_minItems _ fun W hF hR => ?_
    have hBx : BoxesAt W b0 0 35 := hT.x0.keep fun k hk e => hF.block k hk (by show ¬ k = br; omega)
    refine (made_itemsOf _ u b d b0 _ _ W hBx).mono ?_
    rintro e w' ⟨v, z, rfl, hz, hv, hB⟩
    refine ⟨v, z, rfl, ?_⟩
    have hr : ruleS d (n + 1) 6 t = (n + 1, boundZ u 0) := by
      rw [rule_pos]
      simp only [Nat.reduceEqDiff, if_false, or_self]
      have hlo : leastOf 6 = 0 := by decide
      rw [hlo]
      unfold boundZ
      have hx : t.int = u.x := vrep_int h.rep
      rw [hkd.1, hx]
    rw [hr]
    exact ruleQ_plain hF hR (by omega) hB hz (by decide) (by decide) (fun e => ⟨_, _, hv e⟩)
  | 7, _, hl, hf =>
    have he : e = (entriesS b0 b1 b2 b3 b4 b5 b6)[7] := by simpa [entriesS] using hl.symm
    subst he
    have hs : s = wMaxItems := by simpa [entriesS] using hk.symm
    subst hs
    rw [no_7]
    refine rule_found br m n d 7 56 #[.pointer (some ⟨b1, 0, none⟩), .pointer (some ⟨b1 + 1, 0, none⟩)] _ u b _ _ w h.rd hn' hT.map (by omega) hf en_minItems _ fun W hF hR => ?_
    have hBx : BoxesAt W b1 0 36 := hT.x1.keep fun k hk e => hF.block k hk (by show ¬ k = br; omega)
    refine (made_itemsOf _ u b d b1 _ _ W hBx).mono ?_
    rintro e w' ⟨v, z, rfl, hz, hv, hB⟩
    refine ⟨v, z, rfl, ?_⟩
    have hr : ruleS d (n + 1) 7 t = (n + 1, boundZ u 0) := by
      rw [rule_pos]
      simp only [Nat.reduceEqDiff, if_false, or_self]
      have hlo : leastOf 7 = 0 := by decide
      rw [hlo]
      unfold boundZ
      have hx : t.int = u.x := vrep_int h.rep
      rw [hkd.1, hx]
    rw [hr]
    exact ruleQ_plain hF hR (by omega) hB hz (by decide) (by decide) (fun e => ⟨_, _, hv e⟩)
  | 8, _, hl, hf =>
    have he : e = (entriesS b0 b1 b2 b3 b4 b5 b6)[8] := by simpa [entriesS] using hl.symm
    subst he
    have hs : s = wMinLength := by simpa [entriesS] using hk.symm
    subst hs
    rw [no_8]
    refine rule_found br m n d 8 57 #[.pointer (some ⟨b2, 0, none⟩), .pointer (some ⟨b2 + 1, 0, none⟩)] _ u b _ _ w h.rd hn' hT.map (by omega) hf en_minLength _ fun W hF hR => ?_
    have hBx : BoxesAt W b2 0 35 := hT.x2.keep fun k hk e => hF.block k hk (by show ¬ k = br; omega)
    refine (made_charactersOf _ u b d b2 _ _ W hBx).mono ?_
    rintro e w' ⟨v, z, rfl, hz, hv, hB⟩
    refine ⟨v, z, rfl, ?_⟩
    have hr : ruleS d (n + 1) 8 t = (n + 1, boundZ u 0) := by
      rw [rule_pos]
      simp only [Nat.reduceEqDiff, if_false, or_self]
      have hlo : leastOf 8 = 0 := by decide
      rw [hlo]
      unfold boundZ
      have hx : t.int = u.x := vrep_int h.rep
      rw [hkd.1, hx]
    rw [hr]
    exact ruleQ_plain hF hR (by omega) hB hz (by decide) (by decide) (fun e => ⟨_, _, hv e⟩)
  | 9, _, hl, hf =>
    have he : e = (entriesS b0 b1 b2 b3 b4 b5 b6)[9] := by simpa [entriesS] using hl.symm
    subst he
    have hs : s = wMaxLength := by simpa [entriesS] using hk.symm
    subst hs
    rw [no_9]
    refine rule_found br m n d 9 57 #[.pointer (some ⟨b3, 0, none⟩), .pointer (some ⟨b3 + 1, 0, none⟩)] _ u b _ _ w h.rd hn' hT.map (by omega) hf en_minLength _ fun W hF hR => ?_
    have hBx : BoxesAt W b3 0 36 := hT.x3.keep fun k hk e => hF.block k hk (by show ¬ k = br; omega)
    refine (made_charactersOf _ u b d b3 _ _ W hBx).mono ?_
    rintro e w' ⟨v, z, rfl, hz, hv, hB⟩
    refine ⟨v, z, rfl, ?_⟩
    have hr : ruleS d (n + 1) 9 t = (n + 1, boundZ u 0) := by
      rw [rule_pos]
      simp only [Nat.reduceEqDiff, if_false, or_self]
      have hlo : leastOf 9 = 0 := by decide
      rw [hlo]
      unfold boundZ
      have hx : t.int = u.x := vrep_int h.rep
      rw [hkd.1, hx]
    rw [hr]
    exact ruleQ_plain hF hR (by omega) hB hz (by decide) (by decide) (fun e => ⟨_, _, hv e⟩)
  | 10, _, hl, hf =>
    have he : e = (entriesS b0 b1 b2 b3 b4 b5 b6)[10] := by simpa [entriesS] using hl.symm
    subst he
    have hs : s = wMinimum := by simpa [entriesS] using hk.symm
    subst hs
    rw [no_10]
    refine rule_found br m n d 10 58 #[.pointer (some ⟨b4, 0, none⟩), .pointer (some ⟨b4 + 1, 0, none⟩)] _ u b _ _ w h.rd hn' hT.map (by omega) hf en_minimum _ fun W hF hR => ?_
    have hBx : BoxesAt W b4 (-9223372036854775808) 35 := hT.x4.keep fun k hk e => hF.block k hk (by show ¬ k = br; omega)
    refine (made_intOf _ u b d b4 _ _ W hBx).mono ?_
    rintro e w' ⟨v, z, rfl, hz, hv, hB⟩
    refine ⟨v, z, rfl, ?_⟩
    have hr : ruleS d (n + 1) 10 t = (n + 1, boundZ u (-9223372036854775808)) := by
      rw [rule_pos]
      simp only [Nat.reduceEqDiff, if_false, or_self]
      have hlo : leastOf 10 = (-9223372036854775808) := by decide
      rw [hlo]
      unfold boundZ
      have hx : t.int = u.x := vrep_int h.rep
      rw [hkd.1, hx]
    rw [hr]
    refine ⟨hF.trans (Fr.of_below hB), hR.keep hB, by show n + 1 ≤ 128; omega, hz, fun e => ?_⟩
    have hv' := hv (by rw [hz]; exact e)
    have hx : t.int = u.x := vrep_int h.rep
    subst hv'
    rw [← hx]
    obtain ⟨k, x, s, ns, its⟩ := t
    unfold RuleR
    exact ⟨⟨_, _, rfl⟩, (fun e => by cases e), fun _ => rfl⟩
  | 11, _, hl, hf =>
    have he : e = (entriesS b0 b1 b2 b3 b4 b5 b6)[11] := by simpa [entriesS] using hl.symm
    subst he
    have hs : s = wMaximum := by simpa [entriesS] using hk.symm
    subst hs
    rw [no_11]
    refine rule_found br m n d 11 58 #[.pointer (some ⟨b5, 0, none⟩), .pointer (some ⟨b5 + 1, 0, none⟩)] _ u b _ _ w h.rd hn' hT.map (by omega) hf en_minimum _ fun W hF hR => ?_
    have hBx : BoxesAt W b5 (-9223372036854775808) 36 := hT.x5.keep fun k hk e => hF.block k hk (by show ¬ k = br; omega)
    refine (made_intOf _ u b d b5 _ _ W hBx).mono ?_
    rintro e w' ⟨v, z, rfl, hz, hv, hB⟩
    refine ⟨v, z, rfl, ?_⟩
    have hr : ruleS d (n + 1) 11 t = (n + 1, boundZ u (-9223372036854775808)) := by
      rw [rule_pos]
      simp only [Nat.reduceEqDiff, if_false, or_self]
      have hlo : leastOf 11 = (-9223372036854775808) := by decide
      rw [hlo]
      unfold boundZ
      have hx : t.int = u.x := vrep_int h.rep
      rw [hkd.1, hx]
    rw [hr]
    exact ruleQ_plain hF hR (by omega) hB hz (by decide) (by decide) (fun e => ⟨_, _, hv e⟩)
  | 12, _, hl, hf =>
    have he : e = (entriesS b0 b1 b2 b3 b4 b5 b6)[12] := by simpa [entriesS] using hl.symm
    subst he
    have hs : s = wDivisible := by simpa [entriesS] using hk.symm
    subst hs
    rw [no_12]
    refine rule_found br m n d 12 58 #[.pointer (some ⟨b6, 0, none⟩), .pointer (some ⟨b6 + 1, 0, none⟩)] _ u b _ _ w h.rd hn' hT.map (by omega) hf en_minimum _ fun W hF hR => ?_
    have hBx : BoxesAt W b6 1 39 := hT.x6.keep fun k hk e => hF.block k hk (by show ¬ k = br; omega)
    refine (made_intOf _ u b d b6 _ _ W hBx).mono ?_
    rintro e w' ⟨v, z, rfl, hz, hv, hB⟩
    refine ⟨v, z, rfl, ?_⟩
    have hr : ruleS d (n + 1) 12 t = (n + 1, boundZ u 1) := by
      rw [rule_pos]
      simp only [Nat.reduceEqDiff, if_false, or_self]
      have hlo : leastOf 12 = 1 := by decide
      rw [hlo]
      unfold boundZ
      have hx : t.int = u.x := vrep_int h.rep
      rw [hkd.1, hx]
    rw [hr]
    exact ruleQ_plain hF hR (by omega) hB hz (by decide) (by decide) (fun e => ⟨_, _, hv e⟩)
  | 13, _, hl, hf =>
    have he : e = (entriesS b0 b1 b2 b3 b4 b5 b6)[13] := by simpa [entriesS] using hl.symm
    subst he
    have hs : s = wAnyOf := by simpa [entriesS] using hk.symm
    subst hs
    rw [no_13]
    refine rule_found br m n d 13 40 #[] _ u b _ _ w h.rd hn' hT.map (by omega) hf en_anyOf _ fun W hF hR => ?_
    exact (made_any w0 br m d (n + 1) t u b W (hg W hF hR) hOs).mono fun e w' hP => ruleQ_of hF hP
  | 14, _, hl, hf =>
    have he : e = (entriesS b0 b1 b2 b3 b4 b5 b6)[14] := by simpa [entriesS] using hl.symm
    subst he
    have hs : s = wAllOf := by simpa [entriesS] using hk.symm
    subst hs
    rw [no_14]
    refine rule_found br m n d 14 41 #[] _ u b _ _ w h.rd hn' hT.map (by omega) hf en_allOf _ fun W hF hR => ?_
    exact (made_all w0 br m d (n + 1) t u b W (hg W hF hR) hOs).mono fun e w' hP => ruleQ_of hF hP
  | 15, _, hl, hf =>
    have he : e = (entriesS b0 b1 b2 b3 b4 b5 b6)[15] := by simpa [entriesS] using hl.symm
    subst he
    have hs : s = wNot := by simpa [entriesS] using hk.symm
    subst hs
    rw [no_15]
    refine rule_found br m n d 15 42 #[] _ u b _ _ w h.rd hn' hT.map (by omega) hf en_not _ fun W hF hR => ?_
    exact (made_not w0 br m d (n + 1) t u b W (hg W hF hR) hO).mono fun e w' hP => ruleQ_of hF hP
end Go.Proofs.YtgjemghfejaifaaGreatDoor
