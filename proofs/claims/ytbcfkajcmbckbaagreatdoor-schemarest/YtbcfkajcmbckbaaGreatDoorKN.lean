import Derived.Test.YtbcfkajcmbckbaaGreatDoorKI
import Derived.Test.YtbcfkajcmbckbaaGreatDoorKC
import Derived.Test.YtbcfkajcmbckbaaGreatDoorTF
/-! schema: a rule of a schema that was read is asked. -/
namespace Go.Proofs.YtbcfkajcmbckbaaGreatDoor
open Go Go.RowKit

/-- A tree that is a schema. -/
def Good (t : Tr) : Prop := ∃ d n, (schemaS d n t).2 = 0
def GoodR (j : Nat) (t : Tr) : Prop := ∃ d n, (ruleS d n j t).2 = 0
theorem good_list : {its : List Tr} → {d n : Nat} → (listS d n its).2 = 0 → ∀ t ∈ its, Good t
  | [], _, _, _, _, h => by simp at h
  | u :: us, d, n, h0, t, ht => by
    rw [listS_cons] at h0
    by_cases h : (schemaS d n u).2 = 0
    · rw [if_pos h] at h0
      rcases List.mem_cons.1 ht with rfl | ht
      · exact ⟨d, n, h⟩
      · exact good_list h0 t ht
    · rw [if_neg h] at h0; exact absurd h0 h
theorem good_members : {its : List Tr} → {ns : List ByteArray} → {d n q : Nat} → {t : Tr} → (membersS d n ns its).2 = 0 → its[q]? = some t → GoodR (wordNo (ns.getD q noS)) t
  | [], _, _, _, _, _, _, h => by simp at h
  | u :: us, ns, d, n, q, t, h0, ht => by
    rw [membersS] at h0
    split at h0
    · cases h0
    · by_cases h : (ruleS d (n + 1) (wordNo (ns.headD noS)) u).2 = 0
      · rw [if_pos h] at h0
        cases q with
        | zero =>
          have e : u = t := by simpa using ht
          subst e
          refine ⟨d, n + 1, ?_⟩
          cases ns <;> exact h
        | succ q =>
          have := good_members h0 (q := q) (by simpa using ht)
          cases ns with
          | nil => simpa using this
          | cons a ns => simpa using this
      · rw [if_neg h] at h0; exact absurd h0 h
/-- What required keeps, what a text's length keeps: wanted. -/
def ReqOk : Prop := ∀ (m : Nat) (L : List Tr) (x : Tr) (u : V5) (w : World), NumsAt w m L.length (reqD L) → SmallL L → L.length ≤ 1759218604390 → VRep w x u.cs → SmallT x →
  Calls Tryz.prog 100 #[.map (some m), u.v] w fun e w' => e = .returned (.bool (!(x.kind == 6) || L.all (fun y => memB (mbrsT x) y.text))) ∧ Below w.heap.size w w'
def ChrOk : Prop := ∀ (j : Nat) (z : Int) (x : Tr) (u : V5) (w : World), j = 8 ∨ j = 9 → VRep w x u.cs → SmallT x →
  Calls Tryz.prog 136 #[boundJ z (bndF j), u.v] w fun e w' => e = .returned (.bool (!(x.kind == 4) || (if j = 9 then decide ((Lib.runeCount x.text : Int) ≤ z) else decide (z ≤ (Lib.runeCount x.text : Int))))) ∧ Below w.heap.size w w'
/-- A rule that is asked of a value says z. -/
def RK (w : World) (u : V5) (r : Value) (z : Bool) : Prop := ∃ v,
  let Q := fun (F : Nat) => Calls Tryz.prog F #[v, u.v] w fun e w' => e = .returned (.bool z) ∧ Below w.heap.size w w'
  (r = .iface 102 v ∧ Q 92) ∨ (r = .iface 103 v ∧ Q 93) ∨ (r = .iface 106 v ∧ Q 100) ∨
  (r = .iface 112 v ∧ Q 102) ∨ (r = .iface 114 v ∧ Q 114) ∨ (r = .iface 117 v ∧ Q 115) ∨
  (r = .iface 119 v ∧ Q 134) ∨ (r = .iface 120 v ∧ Q 136) ∨ (r = .iface 121 v ∧ Q 137) ∨
  (r = .iface 122 v ∧ Q 138) ∨ (r = .iface 123 v ∧ Q 142) ∨ (r = .iface 124 v ∧ Q 146)
set_option maxHeartbeats 4000000 in
set_option maxRecDepth 100000 in
theorem rules_keeps (l : Nat) (a : Option Addr) (c : Nat) (u : V5) (w : World) (K : Nat → Bool) (hl : l ≤ 1759218604390) (hI : Hid (∀ q, q < l → ∃ b o s r, a = some ⟨b, o, none⟩ ∧ w.cell? ⟨b, o + q * 2, none⟩ = some (.string s) ∧ w.cell? ⟨b, o + q * 2 + 1, none⟩ = some r ∧ (∃ ty v, r = .iface ty v) ∧ ∀ W, Below w.heap.size w W → RK W u r (K q))) :
    Calls Tryz.prog 26 #[.slice a l c, u.v] w fun e w' => e = .returned (.bool ((List.range l).all K)) ∧ Below w.heap.size w w' := by
  have hb := hid_of ((Below.refl _ w).alloc (Nat.le_refl _) (u.obj 25))
  obtain ⟨x0, x1, x2, x3, x4, -⟩ := row_cells (heap_alloc_new w (u.obj 25))
  obtain ⟨R, hRR⟩ : ∃ R, Hid ((List.range l).all K = R) := ⟨_, rfl⟩
  rw [hRR.out]
  have h0 : Hid (((List.range l).drop 0).all K = R) := hRR
  have hdr : ∀ q, q < l → Hid (((List.range l).drop q).all K = (K q && ((List.range l).drop (q + 1)).all K)) := fun q hq => by
    rw [Hid, List.drop_eq_getElem_cons (by simpa using hq), List.all_cons]; simp
  unfold V5.obj at *
  unfold V5.v
  go_enter Tryz.func26, Tryz.ntmps26
  go_wp2_with fail
  generalize w.alloc (.cells #[.int .i64 u.k, .int .i64 u.x, .string u.s, .slice u.an u.ln u.cn, .slice u.ai u.li u.ci] 25) = X at *
  replace x0 := hid_of x0; replace x1 := hid_of x1; replace x2 := hid_of x2; replace x3 := hid_of x3; replace x4 := hid_of x4
  go_loopw [9] (fun i wr => ∃ q : Nat, q ≤ l ∧ i = .int .i64 q ∧ Hid (Below X.heap.size X wr) ∧ Hid (((List.range l).drop q).all K = R)) (fun i _ => l - (intOf i).toNat)
  case atStart => exact ⟨0, Nat.zero_le _, rfl, Below.refl _ _, h0⟩
  case round =>
    obtain ⟨q, hq, rfl, hBr, hM⟩ := hrel
    have hqb : (q : Int) ≤ 1759218604390 := by omega
    by_cases hlt : q < l
    · obtain ⟨b, o, s, r, ha, m0, m1, ⟨ty, v0, hr0⟩, hrk⟩ := hI.out q hlt
      have hBw := hid_of (hb.out.trans (hBr.out.mono hb.out.size))
      have k0 := stay hBw.out m0
      have k1 := stay hBw.out m1
      have hi : (q : Int) < (l : Int) := by omega
      have hst := hdr q hlt
      have hrk2 := hrk (wr.alloc (.cells #[.string s, r] 90)) (hBw.out.alloc hBw.out.size _)
      have hBY := hid_of (hBr.out.alloc hBr.out.size (.cells #[.string s, r] 90))
      have y0 := stay hBY.out x0.out; have y1 := stay hBY.out x1.out; have y2 := stay hBY.out x2.out; have y3 := stay hBY.out x3.out; have y4 := stay hBY.out x4.out
      obtain ⟨kn, hkn⟩ : ∃ z, Hid (K q = z) := ⟨_, rfl⟩
      rw [hkn.out] at hst hrk2
      rw [ha]
      clear hrk m0 m1 ha hdr hr0
      obtain ⟨v, hrk2⟩ := hrk2
      simp only at hrk2
      unfold V5.v at hrk2
      rcases hrk2 with ⟨rfl, hc⟩ | ⟨rfl, hc⟩ | ⟨rfl, hc⟩ | ⟨rfl, hc⟩ | ⟨rfl, hc⟩ | ⟨rfl, hc⟩ | ⟨rfl, hc⟩ | ⟨rfl, hc⟩ | ⟨rfl, hc⟩ | ⟨rfl, hc⟩ | ⟨rfl, hc⟩ | ⟨rfl, hc⟩
      all_goals
        replace hc := hid_of hc
        go_wp2_with fail
        refine hc.out.mono ?_
        rintro e W ⟨rfl, hb2⟩
        have hB2 := hid_of (hBY.out.trans (hb2.mono hBY.out.size))
        clear hc hb2 k0 k1 y0 y1 y2 y3 y4
        cases kn with
        | true =>
          have hM2 : Hid (((List.range l).drop (q + 1)).all K = R) := by rw [Hid, ← hM.out, hst.out]; simp
          go_wp2_with fail
          go_roundw
          case rel => exact ⟨q + 1, by omega, by go_num, hB2, hM2⟩
          case measure => simp [intOf]; omega
        | false =>
          have hM2 : Hid (R = false) := by rw [Hid, ← hM.out, hst.out]; simp
          go_wp2_with fail
          go_ret
          exact ⟨ret_bool hM2.out.symm, hb.out.trans (hB2.out.mono hb.out.size)⟩
    · have e : (List.range l).drop q = [] := List.drop_eq_nil_of_le (by simp; omega)
      have hi : ¬ (q : Int) < (l : Int) := by omega
      have hM2 : Hid (R = true) := by rw [Hid, ← hM.out, e]; rfl
      clear hlt e
      go_wp2_with fail
      go_ret
      exact ⟨ret_bool hM2.out.symm, hb.out.trans (hBr.out.mono hb.out.size)⟩
end Go.Proofs.YtbcfkajcmbckbaaGreatDoor
/-! schema: what a value keeps: the rules, told of plainly. -/
namespace Go.Proofs.YtbcfkajcmbckbaaGreatDoor
open Go Go.RowKit

theorem keeps_pos (bn : List ByteArray) (j : Nat) (t v : Tr) : keepsR bn j t v = (if j = 3 then !(v.kind == 6) || (List.range (mbrsT v).length).all (fun i => match noOf t.names ((mbrsT v).getD i noS) with
      | none => true
      | some q => keepsAt t.items q (v.items.getD i zeroT)) else
    if j = 5 then !(v.kind == 5) || v.items.all (fun y => keepsT t y) else
    if j = 15 then !keepsT t v else
    if j = 13 then keepsAny t.items v else
    if j = 14 then keepsAll t.items v else plainK bn j t v) := by
  obtain ⟨k, x, s, ns, its⟩ := t
  rw [keepsR]
  rfl
theorem keepsAt_eq : (its : List Tr) → (q : Nat) → (v : Tr) → q < its.length → keepsAt its q v = keepsT (its.getD q zeroT) v
  | [], q, _, h => by simp at h
  | .node k x s ns its :: ts, 0, v, _ => by rw [keepsAt, if_pos rfl]; rfl
  | .node k x s ns its :: ts, q + 1, v, h => by
    rw [keepsAt, if_neg (by omega), Nat.add_sub_cancel, keepsAt_eq ts q v (by simpa using h)]
    rfl
theorem matches_all (ns ms : List ByteArray) (its : List Tr) (v : Tr) (hn : ns.length = its.length) (n : Nat) : (List.range n).all (fun i => match noOf ns (ms.getD i noS) with
      | none => true
      | some q => keepsAt its q (v.items.getD i zeroT)) = (matchesT ns ms n).all (matchK its v) := by
  induction n with
  | zero => rfl
  | succ n ih =>
    unfold matchesT at ih ⊢
    rw [List.range_succ, List.all_append, List.filterMap_append, List.all_append, ih]
    congr 1
    cases h : noOf ns (ms.getD n noS) with
    | none => simp [List.filterMap]; rw [List.getD_eq_getElem?_getD] at h; rw [h]; simp
    | some q =>
      have hq := noOf_lt h
      have e := keepsAt_eq its q (v.items.getD n zeroT) (by omega)
      have h' := h
      rw [List.getD_eq_getElem?_getD] at h'
      simp only [List.filterMap, List.all_cons, List.all_nil, h, Option.map_some, Bool.and_true]
      rw [e]
      rfl
set_option maxHeartbeats 2000000 in
set_option maxRecDepth 100000 in
theorem named_none (mb : Nat) (pa : Option Addr) (pl pc : Nat) (u : V5) (w : World) (hk6 : ¬ u.k = 6) :
    Calls Tryz.prog 104 #[.agg #[.map (some mb), .slice pa pl pc], u.v] w fun e w' => e = .returned (.slice none 0 0) ∧ Below w.heap.size w w' := by
  have hb0 := (Below.refl _ w).alloc (Nat.le_refl _) (.cells #[.map (some mb), .slice pa pl pc] 112)
  have hb := hid_of (hb0.alloc hb0.size (u.obj 25))
  obtain ⟨x0, x1, x2, x3, x4, -⟩ := row_cells (heap_alloc_new (w.alloc (.cells #[.map (some mb), .slice pa pl pc] 112)) (u.obj 25))
  rw [World.size_alloc] at x0 x1 x2 x3 x4
  have e6 : (u.k != 6) = true := by simp [hk6]
  unfold V5.obj at *
  unfold V5.v at *
  clear hk6
  go_enter Tryz.func104, Tryz.ntmps104
  go_wp2_with fail
  go_ret
  exact ⟨rfl, hb.out⟩
set_option maxHeartbeats 2000000 in
set_option maxRecDepth 100000 in
theorem properties_none (mb : Nat) (a : Option Addr) (l c : Nat) (u : V5) (w : World) (hk6 : ¬ u.k = 6) :
    Calls Tryz.prog 102 #[.agg #[.map (some mb), .slice a l c], u.v] w fun e w' => e = .returned (.bool true) ∧ Below w.heap.size w w' := by
  have hb0 := (Below.refl _ w).alloc (Nat.le_refl _) (.cells #[.map (some mb), .slice a l c] 112)
  have hb := hid_of (hb0.alloc hb0.size (u.obj 25))
  obtain ⟨x0, x1, x2, x3, x4, -⟩ := row_cells (heap_alloc_new (w.alloc (.cells #[.map (some mb), .slice a l c] 112)) (u.obj 25))
  have n0 := new1 w (.cells #[.map (some mb), .slice a l c] 112) (u.obj 25)
  have a0 := (cell_of n0 0).trans rfl
  have a1 := (cell_of n0 1).trans rfl
  rw [World.size_alloc] at x0 x1 x2 x3 x4
  have hnm := fun W => hid_of (named_none mb a l c u W hk6)
  unfold V5.obj at *
  unfold V5.v at *
  clear hk6 n0
  go_enter Tryz.func102, Tryz.ntmps102
  go_wp2_with fail
  generalize (w.alloc (.cells #[.map (some mb), .slice a l c] 112)).alloc (.cells #[.int .i64 u.k, .int .i64 u.x, .string u.s, .slice u.an u.ln u.cn, .slice u.ai u.li u.ci] 25) = X at *
  refine (hnm _).out.mono ?_
  rintro e W ⟨rfl, hbW⟩
  have hBW := hid_of (hb.out.trans (hbW.mono hb.out.size))
  clear hnm hbW x0 x1 x2 x3 x4 a0 a1
  go_wp2_with fail
  refine wp_loop_rounds 1 ?_
  rw [rounds_succ]
  go_wp2_with fail
  go_ret
  exact ⟨rfl, hBW.out⟩
end Go.Proofs.YtbcfkajcmbckbaaGreatDoor
/-! schema: every rule, every schema, every value: keepsT. -/
namespace Go.Proofs.YtbcfkajcmbckbaaGreatDoor
open Go Go.RowKit

theorem bnd_cases {j : Nat} (h6 : 6 ≤ j) (h12 : j ≤ 12) : j = 6 ∨ j = 7 ∨ j = 8 ∨ j = 9 ∨ j = 10 ∨ j = 11 ∨ j = 12 := by omega
theorem rule_rk (hReq : ReqOk) (hChr : ChrOk) (w0 w : World) (bn : List ByteArray) (S : Nat → Prop) (j : Nat) (t : Tr) (r : Value) (x : Tr) (u : V5) (h : RuleR w0 bn w S j t r) (hj : j < 16) (hg : GoodR j t) (hn : NamesT t) (hs : SmallT t) (hB : Below w0.heap.size w0 w) (hV : VRep w x u.cs) (hS : SmallT x) (hOt : Good t → KeepsOk w0 t) (hOs : ∀ t' ∈ t.items, Good t' → KeepsOk w0 t') : RK w u r (keepsR bn j t x) := by
  obtain ⟨d, n, hg⟩ := hg
  have hkd := (vrep_head hV).1
  obtain ⟨hrow, hli⟩ := rep_row hV
  have hsm := small_parts hs
  rw [keeps_pos]
  rw [rule_pos] at hg
  have hpl : PlainR w0 bn w S j t r ∧ (j = 3 → ∃ m a c, r = .iface 112 (.agg #[.map (some m), .slice a t.items.length c]) ∧ S m ∧ NumsAt w m t.names.length (numsD t.names) ∧ RowS w0 w S a t.items) ∧ (j = 5 ∨ j = 15 → ∃ a c, r = .iface (if j = 5 then 117 else 124) (.slice a t.items.length c) ∧ RowR w0 (besideN t) w S a t.names t.items) ∧ (j = 13 ∨ j = 14 → ∃ a c, r = .iface (if j = 13 then 122 else 123) (.slice a t.items.length c) ∧ RowS w0 w S a t.items) := by
    obtain ⟨k, x, s, ns, its⟩ := t
    unfold RuleR at h
    exact ⟨h.2.2.2.2, h.2.1, h.2.2.1, h.2.2.2.1⟩
  obtain ⟨hp, h3, h5, h13⟩ := hpl
  obtain ⟨p0, p1, p2, p4, p6⟩ := hp
  clear h
  by_cases j3 : j = 3
  · subst j3
    rw [if_pos rfl]
    simp only [Nat.reduceEqDiff, if_false, if_true] at hg
    obtain ⟨m, a, c, rfl, -, hN, hR⟩ := h3 rfl
    by_cases hk : t.kind = 6
    · rw [if_pos hk] at hg
      have hnn := (names_parts hn).1 hk
      rw [matches_all _ _ _ _ hnn]
      refine ⟨_, .inr (.inr (.inr (.inl ⟨rfl, ?_⟩)))⟩
      by_cases h6 : u.k = 6
      · rw [show (!(x.kind == 6)) = false by rw [hkd, h6]; rfl, Bool.false_or]
        exact properties_obj w0 m a c t.names t.items (hid_of fun t' ht' => hOs t' ht' (good_list hg t' ht')) x u w S hN (hid_of hnn) (hid_of hR) (hid_of hB) hV hS h6
      · rw [show (!(x.kind == 6)) = true by rw [hkd]; simp [h6], Bool.true_or]
        exact properties_none m a _ c u w h6
    · rw [if_neg hk] at hg; cases hg
  rw [if_neg j3]
  by_cases j5 : j = 5
  · subst j5
    rw [if_pos rfl]
    simp only [Nat.reduceEqDiff, if_false, true_or, if_true] at hg
    obtain ⟨a, c, rfl, hR⟩ := h5 (.inl rfl)
    exact ⟨_, .inr (.inr (.inr (.inr (.inr (.inl ⟨rfl, items_keeps w0 t (hOt ⟨_, _, hg⟩) x u w a c S hR hB hV hS⟩)))))⟩
  rw [if_neg j5]
  by_cases j15 : j = 15
  · subst j15
    rw [if_pos rfl]
    simp only [Nat.reduceEqDiff, if_false, or_true, if_true] at hg
    obtain ⟨a, c, rfl, hR⟩ := h5 (.inr rfl)
    exact ⟨_, .inr (.inr (.inr (.inr (.inr (.inr (.inr (.inr (.inr (.inr (.inr ⟨rfl, not_keeps w0 t (hOt ⟨_, _, hg⟩) x u w a c S hR hB hV hS⟩))))))))))⟩
  rw [if_neg j15]
  by_cases j13 : j = 13
  · subst j13
    rw [if_pos rfl]
    simp only [Nat.reduceEqDiff, if_false, or_self, true_or, if_true] at hg
    obtain ⟨a, c, rfl, hR⟩ := h13 (.inl rfl)
    by_cases hk : t.kind = 5 ∧ t.items ≠ []
    · rw [if_pos hk] at hg
      rw [keepsAny_eq]
      exact ⟨_, .inr (.inr (.inr (.inr (.inr (.inr (.inr (.inr (.inr (.inl ⟨rfl, anyOf_keeps w0 t.items (hid_of fun t' ht' => hOs t' ht' (good_list hg t' ht')) x u w a c S hR hB hV hS hsm.1⟩)))))))))⟩
    · rw [if_neg hk] at hg; cases hg
  rw [if_neg j13]
  by_cases j14 : j = 14
  · subst j14
    rw [if_pos rfl]
    simp only [Nat.reduceEqDiff, if_false, or_self, or_true, if_true] at hg
    obtain ⟨a, c, rfl, hR⟩ := h13 (.inr rfl)
    by_cases hk : t.kind = 5 ∧ t.items ≠ []
    · rw [if_pos hk] at hg
      rw [keepsAll_eq, List.all_eq_not_any_not]
      exact ⟨_, .inr (.inr (.inr (.inr (.inr (.inr (.inr (.inr (.inr (.inr (.inl ⟨rfl, allOf_keeps w0 t.items (hid_of fun t' ht' => hOs t' ht' (good_list hg t' ht')) x u w a c S hR hB hV hS hsm.1⟩))))))))))⟩
    · rw [if_neg hk] at hg; cases hg
  rw [if_neg j14]
  unfold plainK
  by_cases j0 : j = 0
  · subst j0
    rw [if_pos rfl]
    have hv := p0 rfl
    unfold TypesV at hv
    subst hv
    rw [hkd]
    exact ⟨_, .inl ⟨rfl, types_keeps _ u w⟩⟩
  rw [if_neg j0]
  by_cases j1 : j = 1
  · subst j1
    rw [if_pos rfl]
    obtain ⟨a, c, rfl, hR⟩ := p1 rfl
    exact ⟨_, .inr (.inl ⟨rfl, enum_keeps t.items x u w a c (hR.keep hB) hsm.2.2.2.1 hV hsm.1⟩)⟩
  rw [if_neg j1]
  by_cases j2 : j = 2
  · subst j2
    rw [if_pos rfl]
    obtain ⟨m, rfl, -, hN⟩ := p2 rfl
    exact ⟨_, .inr (.inr (.inl ⟨rfl, hReq m t.items x u w hN hsm.2.2.2.1 hsm.1 hV hS⟩))⟩
  rw [if_neg j2]
  by_cases j4 : j = 4
  · subst j4
    rw [if_pos rfl]
    obtain ⟨mo, rfl, hm⟩ := p4 rfl
    have e : (t.kind == 2) = decide (t.kind = 2) := by by_cases h : t.kind = 2 <;> simp [h]
    rw [e]
    refine ⟨_, .inr (.inr (.inr (.inr (.inl ⟨rfl, additional_keeps (decide (t.kind = 2)) mo bn x u w hV hS fun hf => ?_⟩))))⟩
    obtain ⟨m, h1, -, h2⟩ := hm (by simpa using hf)
    exact ⟨m, h1, h2⟩
  rw [if_neg j4]
  have h6 : 6 ≤ j := by omega
  have h12 : j ≤ 12 := by omega
  have hr := p6 h6 h12
  have hxi : x.int = u.x := vrep_int hV
  subst hr
  rcases bnd_cases h6 h12 with rfl | rfl | rfl | rfl | rfl | rfl | rfl
  · rw [if_pos rfl, hkd, ← hli]
    exact ⟨_, .inr (.inr (.inr (.inr (.inr (.inr (.inl ⟨rfl, keeps_items_least _ u w⟩))))))⟩
  · rw [if_neg (by decide), if_pos rfl, hkd, ← hli]
    exact ⟨_, .inr (.inr (.inr (.inr (.inr (.inr (.inl ⟨rfl, keeps_items_most _ u w⟩))))))⟩
  · rw [if_neg (by decide), if_neg (by decide), if_pos rfl]
    exact ⟨_, .inr (.inr (.inr (.inr (.inr (.inr (.inr (.inl ⟨rfl, hChr 8 t.int x u w (.inl rfl) hV hS⟩)))))))⟩
  · rw [if_neg (by decide), if_neg (by decide), if_neg (by decide), if_pos rfl]
    exact ⟨_, .inr (.inr (.inr (.inr (.inr (.inr (.inr (.inl ⟨rfl, hChr 9 t.int x u w (.inr rfl) hV hS⟩)))))))⟩
  · rw [if_neg (by decide), if_neg (by decide), if_neg (by decide), if_neg (by decide), if_pos rfl, hkd, hxi]
    exact ⟨_, .inr (.inr (.inr (.inr (.inr (.inr (.inr (.inr (.inl ⟨rfl, keeps_int_least _ u w⟩))))))))⟩
  · rw [if_neg (by decide), if_neg (by decide), if_neg (by decide), if_neg (by decide), if_neg (by decide), if_pos rfl, hkd, hxi]
    exact ⟨_, .inr (.inr (.inr (.inr (.inr (.inr (.inr (.inr (.inl ⟨rfl, keeps_int_most _ u w⟩))))))))⟩
  · rw [if_neg (by decide), if_neg (by decide), if_neg (by decide), if_neg (by decide), if_neg (by decide), if_neg (by decide), if_pos rfl, hkd, hxi]
    have h1 : 1 ≤ t.int := by
      simp only [Nat.reduceEqDiff, if_false, or_self] at hg
      have hlo : leastOf 12 = 1 := by decide
      rw [hlo] at hg
      by_cases hc : t.kind = 3 ∧ 1 ≤ t.int
      · exact hc.2
      · rw [if_neg hc] at hg; cases hg
    exact ⟨_, .inr (.inr (.inr (.inr (.inr (.inr (.inr (.inr (.inl ⟨rfl, keeps_int_div _ h1 u w⟩))))))))⟩
end Go.Proofs.YtbcfkajcmbckbaaGreatDoor
/-! schema: Check of every value: keepsT. -/
namespace Go.Proofs.YtbcfkajcmbckbaaGreatDoor
open Go Go.RowKit

theorem keepsL_range (bn : List ByteArray) : (its : List Tr) → (ns : List ByteArray) → (v : Tr) → keepsL bn ns its v = (List.range its.length).all (fun q => keepsR bn (wordNo (ns.getD q noS)) (its.getD q zeroT) v)
  | [], ns, v => by rw [keepsL]; rfl
  | t :: ts, ns, v => by
    rw [keepsL, keepsL_range bn ts ns.tail v, List.length_cons, List.range_succ_eq_map, List.all_cons, List.all_map]
    congr 1
    · cases ns <;> rfl
    · congr 1
      funext q
      cases ns <;> rfl
theorem RulesL.at {w0 w : World} {bn : List ByteArray} {S : Nat → Prop} {b : Nat} : {its : List Tr} → {ns : List ByteArray} → {i q : Nat} → {t : Tr} → RulesL w0 bn w S b i ns its → its[q]? = some t → w.cell? ⟨b, i + q * 2, none⟩ = some (.string (ns.getD q noS)) ∧ ∃ r, w.cell? ⟨b, i + q * 2 + 1, none⟩ = some r ∧ RuleR w0 bn w S (wordNo (ns.getD q noS)) t r
  | [], _, _, _, _, _, h => by simp at h
  | u :: us, ns, i, 0, t, h, hq => by
    unfold RulesL at h
    obtain ⟨h1, h2, -⟩ := h
    have e : u = t := by simpa using hq
    subst e
    have e2 : ns.headD noS = ns.getD 0 noS := by cases ns <;> rfl
    rw [← e2]
    exact ⟨h1, h2⟩
  | u :: us, ns, i, q + 1, t, h, hq => by
    unfold RulesL at h
    obtain ⟨h1, h2⟩ := RulesL.at h.2.2 (q := q) (by simpa using hq)
    have e2 : ns.tail.getD q noS = ns.getD (q + 1) noS := by cases ns <;> rfl
    rw [e2] at h1 h2
    rw [show i + (q + 1) * 2 = i + 2 + q * 2 by omega]
    exact ⟨h1, h2⟩
theorem wordNo_le (s : ByteArray) : wordNo s ≤ 16 := by
  unfold wordNo
  by_cases h0 : s = wType
  · rw [if_pos h0]; omega
  rw [if_neg h0]
  by_cases h1 : s = wEnum
  · rw [if_pos h1]; omega
  rw [if_neg h1]
  by_cases h2 : s = wRequired
  · rw [if_pos h2]; omega
  rw [if_neg h2]
  by_cases h3 : s = wProperties
  · rw [if_pos h3]; omega
  rw [if_neg h3]
  by_cases h4 : s = wAdditional
  · rw [if_pos h4]; omega
  rw [if_neg h4]
  by_cases h5 : s = wItems
  · rw [if_pos h5]; omega
  rw [if_neg h5]
  by_cases h6 : s = wMinItems
  · rw [if_pos h6]; omega
  rw [if_neg h6]
  by_cases h7 : s = wMaxItems
  · rw [if_pos h7]; omega
  rw [if_neg h7]
  by_cases h8 : s = wMinLength
  · rw [if_pos h8]; omega
  rw [if_neg h8]
  by_cases h9 : s = wMaxLength
  · rw [if_pos h9]; omega
  rw [if_neg h9]
  by_cases h10 : s = wMinimum
  · rw [if_pos h10]; omega
  rw [if_neg h10]
  by_cases h11 : s = wMaximum
  · rw [if_pos h11]; omega
  rw [if_neg h11]
  by_cases h12 : s = wDivisible
  · rw [if_pos h12]; omega
  rw [if_neg h12]
  by_cases h13 : s = wAnyOf
  · rw [if_pos h13]; omega
  rw [if_neg h13]
  by_cases h14 : s = wAllOf
  · rw [if_pos h14]; omega
  rw [if_neg h14]
  by_cases h15 : s = wNot
  · rw [if_pos h15]; omega
  rw [if_neg h15]
  exact Nat.le_refl _
theorem keepsOk (hReq : ReqOk) (hChr : ChrOk) (w0 : World) (t : Tr) (hg : Good t) (hn : NamesT t) (hs : SmallT t) : KeepsOk w0 t := by
  intro x u w a c S hR hB hV hS
  obtain ⟨d, n, hg⟩ := hg
  have hnp := names_parts hn
  have hsp := small_parts hs
  have hmem : (membersS d n t.names t.items).2 = 0 := by
    unfold schemaS at hg
    by_cases hk : t.kind = 6
    · rw [if_pos hk] at hg
      by_cases hd : 8 < d
      · rw [if_pos hd] at hg; cases hg
      · rw [if_neg hd] at hg; exact hg
    · rw [if_neg hk] at hg; cases hg
  unfold keepsT
  rw [keepsL_range]
  refine rules_keeps t.items.length a c u w _ hsp.1 (hid_of fun q hq => ?_)
  obtain ⟨t', ht'⟩ : ∃ t', t.items[q]? = some t' := ⟨_, List.getElem?_eq_getElem hq⟩
  obtain ⟨b, o, rfl, hSb, hL⟩ := hR.resolve_left (by intro e; rw [e] at hq; simp at hq)
  obtain ⟨h1, r, h2, h3⟩ := RulesL.at hL ht'
  have hgr := good_members hmem ht'
  have hj : wordNo (t.names.getD q noS) < 16 := by
    have h16 := wordNo_le (t.names.getD q noS)
    rcases Nat.lt_or_ge (wordNo (t.names.getD q noS)) 16 with h | h
    · exact h
    · have e : wordNo (t.names.getD q noS) = 16 := by omega
      rw [e] at hgr
      obtain ⟨d', n', h⟩ := hgr
      rw [rule_pos] at h
      simp at h
  have hit : t.items.getD q zeroT = t' := by rw [List.getD_eq_getElem?_getD, ht']; rfl
  have hm := List.mem_of_getElem? ht'
  have hn' := hnp.2.at ht'
  have hs' := SmallL.at hsp.2.2.2.1 ht'
  have hd1 : SizeOf.sizeOf t' < SizeOf.sizeOf t := by
    have h1 : SizeOf.sizeOf t' < SizeOf.sizeOf t.items := List.sizeOf_lt_of_mem hm
    have h2 : SizeOf.sizeOf t.items < SizeOf.sizeOf t := by obtain ⟨k, x, s, ns, its⟩ := t; simp only [Tr.items, Tr.node.sizeOf_spec]; omega
    omega
  refine ⟨b, o, _, r, rfl, h1, h2, RuleR.some h3, fun W hW => ?_⟩
  rw [hit]
  refine rule_rk hReq hChr w0 W _ S _ t' r x u (RuleR.keep (kept_below hW) (fun _ h => h) _ _ _ h3) hj hgr hn' hs' (hB.trans (hW.mono hB.size)) (VRep.keep hW _ _ hV) hS (fun hg' => keepsOk hReq hChr w0 t' hg' hn' hs') (fun t'' ht'' hg'' => ?_)
  have hq2 : SizeOf.sizeOf t'' < SizeOf.sizeOf t' := by
    have h1 : SizeOf.sizeOf t'' < SizeOf.sizeOf t'.items := List.sizeOf_lt_of_mem ht''
    have h2 : SizeOf.sizeOf t'.items < SizeOf.sizeOf t' := by obtain ⟨k, x, s, ns, its⟩ := t'; simp only [Tr.items, Tr.node.sizeOf_spec]; omega
    omega
  obtain ⟨i, hi, he⟩ := List.getElem_of_mem ht''
  have hi2 : t'.items[i]? = some t'' := by rw [List.getElem?_eq_getElem hi, he]
  exact keepsOk hReq hChr w0 t'' hg'' ((names_parts hn').2.at hi2) (SmallL.at (small_parts hs').2.2.2.1 hi2)
termination_by SizeOf.sizeOf t
decreasing_by all_goals omega
end Go.Proofs.YtbcfkajcmbckbaaGreatDoor
/-! schema: Check of every value. -/
namespace Go.Proofs.YtbcfkajcmbckbaaGreatDoor
open Go Go.RowKit

set_option maxHeartbeats 2000000 in
set_option maxRecDepth 100000 in
theorem check_every (w0 : World) (t : Tr) (hO : KeepsOk w0 t) (sb : Nat) (a : Option Addr) (c : Nat) (S : Nat → Prop) (x : Tr) (u : V5) (w : World) (h0 : w.cell? ⟨sb, 0, none⟩ = some (.slice a t.items.length c)) (hR : RowR w0 (besideN t) w S a t.names t.items) (hB : Below w0.heap.size w0 w) (hV : VRep w x u.cs) (hS : SmallT x) :
    Calls Tryz.prog 16 #[.pointer (some ⟨sb, 0, none⟩), u.v] w fun e w' => e = .returned (.int .i64 (if keepsT t x = true then 0 else 212)) ∧ Below w.heap.size w w' := by
  have hb0 := (Below.refl _ w).alloc (Nat.le_refl _) (u.obj 25)
  have n0 := heap_alloc_new w (u.obj 25)
  have hB1 : Hid (Below w.heap.size w (w.alloc (u.obj 25)).drew) := below_drew hb0
  have hk := hid_of (hO x u (w.alloc (u.obj 25)).drew a c S (hR.later hB1.out) (hB.trans (hB1.out.mono hB.size)) (VRep.keep hB1.out _ _ hV) hS)
  have w0' : (w.alloc (u.obj 25)).drew.cell? ⟨sb, 0, none⟩ = some (.slice a t.items.length c) := stay hB1.out h0
  obtain ⟨y, hy⟩ : ∃ y, Hid (keepsT t x = y) := ⟨_, rfl⟩
  rw [hy.out] at hk ⊢
  obtain ⟨z, hz⟩ : ∃ z, Hid ((if y = true then 0 else 212 : Int) = z) := ⟨_, rfl⟩
  rw [hz.out]
  unfold V5.v V5.obj at *
  obtain ⟨y0, y1, y2, y3, y4, -⟩ := row_cells (w := (w.alloc (.cells #[.int .i64 u.k, .int .i64 u.x, .string u.s, .slice u.an u.ln u.cn, .slice u.ai u.li u.ci] 25)).drew) n0
  clear n0 hR hB hV hb0 h0 hO
  go_enter Tryz.func16, Tryz.ntmps16
  go_upto_region 1 with fail
  go_region_held3 (fun V => V.cell? ⟨sb, 0, none⟩ = some (.slice a t.items.length c) ∧ V.cell? ⟨w.heap.size, 0, none⟩ = some (.int .i64 u.k) ∧ V.cell? ⟨w.heap.size, 1, none⟩ = some (.int .i64 u.x) ∧ V.cell? ⟨w.heap.size, 2, none⟩ = some (.string u.s) ∧ V.cell? ⟨w.heap.size, 3, none⟩ = some (.slice u.an u.ln u.cn) ∧ V.cell? ⟨w.heap.size, 4, none⟩ = some (.slice u.ai u.li u.ci)) (go_keep) (first
    | (go_at_call 26; refine hk.out.mono ?_; rintro e W3 ⟨rfl, hb3⟩; have b1 := stay hb3 w0'; have j0 := stay hb3 y0; have j1 := stay hb3 y1; have j2 := stay hb3 y2; have j3 := stay hb3 y3; have j4 := stay hb3 y4; have hB4 := hid_of (hB1.out.trans (hb3.mono hB1.out.size)); clear hb3 w0' y0 y1 y2 y3 y4))
  all_goals
    clear b1 j0 j1 j2 j3 j4 hk
    cases y with
    | true =>
      have hz0 : z = 0 := hz.out.symm
      subst hz0
      go_wp2_with fail
      go_ret
      exact ⟨rfl, hB4.out⟩
    | false =>
      have hz0 : z = 212 := hz.out.symm
      subst hz0
      go_wp2_with fail
      go_ret
      exact ⟨rfl, hB4.out⟩
end Go.Proofs.YtbcfkajcmbckbaaGreatDoor
