import Derived.Test.YtbcfkajcmbckbaaGreatDoorSI
import Derived.Test.YtbcfkajcmbckbaaGreatDoorH1
import Derived.Deep.RegionHeld3
/-! schema: the maker of additional. -/
namespace Go.Proofs.YtbcfkajcmbckbaaGreatDoor
open Go Go.RowKit

def addZ (k : Int) : Int := if k = 1 ∨ k = 2 then 0 else 210
theorem SmallL.mem : {its : List Tr} → {t : Tr} → SmallL its → t ∈ its → SmallT t
  | [], _, _, h => by simp at h
  | u :: us, t, h, hm => by
    unfold SmallL at h
    rcases List.mem_cons.1 hm with rfl | hm
    · exact h.1
    · exact SmallL.mem h.2 hm
theorem small_zero : SmallT zeroT := by
  unfold zeroT SmallT SmallL
  exact ⟨by decide, by decide, by simp, by decide, trivial⟩
theorem small_has {t : Tr} (h : SmallT t) (nm : ByteArray) : SmallT ((hasO t nm).getD zeroT) := by
  obtain ⟨k, x, s, ns, its⟩ := t
  unfold SmallT at h
  cases e : hasO (.node k x s ns its) nm with
  | none => exact small_zero
  | some u =>
    simp only [hasO] at e
    by_cases hc : k = 6 ∧ 0 ≤ Lib.idxOfS ns nm
    · rw [if_pos hc] at e
      exact SmallL.mem h.2.2.2.2 (List.mem_of_getElem? e)
    · rw [if_neg hc] at e
      cases e
theorem rep_names {w : World} {t : Tr} {v : V5} (h : VRep w t v.cs) : Reads w (.slice v.an v.ln v.cn) t.names ∧ v.ln = t.names.length := by
  obtain ⟨k, x, s, ns, is⟩ := t
  unfold VRep V5.cs five at h
  obtain ⟨nm, a, c, e, h2, -⟩ := h
  simp only [List.cons.injEq] at e
  obtain ⟨-, -, -, e1, -⟩ := e
  rw [e1]
  obtain ⟨a', c', e2, -⟩ := id h2
  rw [← e1] at e2
  simp only [Value.slice.injEq] at e2
  exact ⟨h2, e2.2.1⟩
/-- The names that properties has beside it. -/
def besideN (bt : Tr) : List ByteArray := ((hasO bt wProperties).getD zeroT).names
/-- What additional makes: k is the kind that it is given. -/
def AddV (w : World) (lo : Nat) (ns : List ByteArray) (k : Int) (v : Value) : Prop := ∃ mo : Option Nat, v = .iface 114 (.agg #[.bool (decide (k = 2)), .map mo]) ∧ (k ≠ 2 → ∃ m, mo = some m ∧ lo ≤ m ∧ NumsAt w m ns.length (numsD ns))
set_option maxHeartbeats 4000000 in
set_option maxRecDepth 100000 in
theorem additional_any (r : Value) (u b : V5) (d : Nat) (bt : Tr) (w : World) (hV : Hid (VRep w bt b.cs)) (hS : Hid (SmallT bt)) :
    Calls Tryz.prog 35 #[r, givenV u b d] w (TypePost w (addZ u.k) (fun w' v => AddV w' w.heap.size (besideN bt) u.k v)) := by
  have hB0 := hid_of ((Below.refl _ w).alloc (Nat.le_refl _) (givenO u b d))
  obtain ⟨x0, x1, x2, x3, x4, x5, x6, x7, x8, x9, x10⟩ := givenO_cells (heap_alloc_new w (givenO u b d))
  have hhas := hid_of (has_code bt b.k b.x b.s b.an b.ln b.cn b.ai b.li b.ci wProperties (w.alloc (givenO u b d)) (VRep.keep hB0.out _ _ hV.out))
  obtain ⟨z, hz⟩ : ∃ z, Hid (addZ u.k = z) := ⟨_, rfl⟩
  rw [hz.out]
  unfold givenO at *
  unfold givenV
  unfold wProperties at hhas
  go_enter Tryz.func35, Tryz.ntmps35
  by_cases h2 : u.k = 2
  · have e2 : (u.k == 2) = true := by simp [h2]
    have hz2 : Hid (z = 0) := by rw [Hid, ← hz.out]; unfold addZ; simp [h2]
    have hk2 := hid_of h2
    clear h2 hz
    go_wp2_with fail
    go_ret2
    exact ⟨_, _, rfl, hz2.out.symm, hB0.out, fun _ => ⟨none, by rw [decide_eq_true hk2.out]; rfl, fun h => absurd hk2.out h⟩⟩
  have e2 : (u.k == 2) = false := by simpa using h2
  by_cases h1 : u.k = 1
  · have e1 : (u.k == 1) = true := by simp [h1]
    have hz2 : Hid (z = 0) := by rw [Hid, ← hz.out]; unfold addZ; simp [h1]
    have h2' := hid_of h2
    clear h2 h1 hz
    go_wp2_with fail
    generalize w.alloc (.cells #[.int .i64 u.k, .int .i64 u.x, .string u.s, .slice u.an u.ln u.cn, .slice u.ai u.li u.ci, .int .i64 b.k, .int .i64 b.x, .string b.s, .slice b.an b.ln b.cn, .slice b.ai b.li b.ci, .int .i64 (d : Int)] 88) = X at *
    refine hhas.out.mono ?_
    rintro e W ⟨k, x, s, an, ln, cn, ai, li, ci, rfl, hR, hB⟩
    obtain ⟨hn1, hn2⟩ := rep_names (v := ⟨k, x, s, an, ln, cn, ai, li, ci⟩) hR
    have hsm := small_has hS.out ⟨#[112, 114, 111, 112, 101, 114, 116, 105, 101, 115]⟩
    have hB1 := hid_of (hB0.out.trans (hB.mono hB0.out.size))
    obtain ⟨ns, hns⟩ : ∃ ns, Hid (((hasO bt ⟨#[112, 114, 111, 112, 101, 114, 116, 105, 101, 115]⟩).getD zeroT).names = ns) := ⟨_, rfl⟩
    have hsm2 : Hid (ns.length ≤ 8796093021952 ∧ ∀ n ∈ ns, n.size ≤ 140737488351232) := by
      rw [← hns.out]
      generalize (hasO bt ⟨#[112, 114, 111, 112, 101, 114, 116, 105, 101, 115]⟩).getD zeroT = q at hsm
      obtain ⟨k, x, s, ns, its⟩ := q
      unfold SmallT at hsm
      exact ⟨by show ns.length ≤ _; omega, hsm.2.2.1⟩
    have hbs : Hid (besideN bt = ns) := hns.out
    have hk2 := hid_of h2'.out
    rw [hns.out] at hn1 hn2
    simp only at hn1 hn2
    subst hn2
    have hnum := fun o => hid_of (numbered_any an cn ns (W.alloc o) (hid_of (hn1.keep ((Below.refl _ W).alloc (Nat.le_refl _) o))) hsm2.out.2 hsm2.out.1)
    have hB2 := fun o => hid_of (hB1.out.alloc hB1.out.size o)
    clear hR hB hn1 hsm hns x0 x1 x2 x3 x4 x5 x6 x7 x8 x9 x10 hhas
    go_wp2_with fail
    refine (hnum _).out.mono ?_
    rintro e W2 ⟨m, rfl, hm, hNm, hb⟩
    have hadd : Hid (AddV W2 w.heap.size (besideN bt) u.k (.iface 114 (.agg #[.bool false, .map (some m)]))) := by
      refine ⟨some m, by rw [decide_eq_false hk2.out], fun _ => ⟨m, rfl, ?_, ?_⟩⟩
      · have h1 := hB1.out.size
        rw [World.size_alloc] at hm
        omega
      · rw [hbs.out]; exact hNm
    clear hm hNm
    have hB3 := hid_of ((hB2 _).out.trans (hb.mono (hB2 _).out.size))
    clear hb hnum hB2
    go_wp2_with fail
    go_ret2
    exact ⟨_, _, rfl, hz2.out.symm, hB3.out, fun _ => hadd.out⟩
  · have e1 : (u.k == 1) = false := by simpa using h1
    have hz2 : Hid (z = 210) := by rw [Hid, ← hz.out]; unfold addZ; simp [h1, h2]
    clear h2 h1 hz
    go_wp2_with fail
    go_ret2
    exact ⟨_, _, rfl, hz2.out.symm, hB0.out, fun e => by cases e⟩
end Go.Proofs.YtbcfkajcmbckbaaGreatDoor
/-! schema: what is read, in memory; what reading a schema tells. -/
namespace Go.Proofs.YtbcfkajcmbckbaaGreatDoor
open Go Go.RowKit

/-- The type and the function of a rule of numbers. -/
def bndT (j : Nat) : TypeId := if j ≤ 7 then 119 else if j ≤ 9 then 120 else 121
def bndF (j : Nat) : Nat := if j = 12 then 42 else if j = 7 ∨ j = 9 ∨ j = 11 then 39 else 38
/-- A rule that holds no schema. -/
def PlainR (w0 : World) (bn : List ByteArray) (w : World) (S : Nat → Prop) (j : Nat) (t : Tr) (r : Value) : Prop :=
  (j = 0 → TypesV (tyL t) r) ∧
  (j = 1 → ∃ a c, r = .iface 103 (.slice a t.items.length c) ∧ RowT w0 a t.items) ∧
  (j = 2 → ∃ m, r = .iface 106 (.map (some m)) ∧ S m ∧ NumsAt w m t.items.length (reqD t.items)) ∧
  (j = 4 → ∃ mo : Option Nat, r = .iface 114 (.agg #[.bool (decide (t.kind = 2)), .map mo]) ∧ (t.kind ≠ 2 → ∃ m, mo = some m ∧ S m ∧ NumsAt w m bn.length (numsD bn))) ∧
  (6 ≤ j → j ≤ 12 → r = .iface (bndT j) (.agg #[.int .i64 t.int, fnV (bndF j)]))
mutual
/-- Rules, one behind the other: their words, and what their makers made. -/
def RulesL (w0 : World) (bn : List ByteArray) (w : World) (S : Nat → Prop) (b : Nat) : Nat → List ByteArray → List Tr → Prop
  | _, _, [] => True
  | i, ns, t :: ts => w.cell? ⟨b, i, none⟩ = some (.string (ns.headD noS)) ∧ (∃ r, w.cell? ⟨b, i + 1, none⟩ = some r ∧ RuleR w0 bn w S (wordNo (ns.headD noS)) t r) ∧ RulesL w0 bn w S b (i + 2) ns.tail ts
/-- A rule. -/
def RuleR (w0 : World) (bn : List ByteArray) (w : World) (S : Nat → Prop) : Nat → Tr → Value → Prop
  | j, .node k x s ns its, r => (∃ ty v, r = .iface ty v) ∧
    (j = 3 → ∃ m a c, r = .iface 112 (.agg #[.map (some m), .slice a its.length c]) ∧ S m ∧ NumsAt w m ns.length (numsD ns) ∧ (its = [] ∨ ∃ b o, a = some ⟨b, o, none⟩ ∧ S b ∧ SchemasL w0 w S b o its)) ∧
    (j = 5 ∨ j = 15 → ∃ a c, r = .iface (if j = 5 then 117 else 124) (.slice a its.length c) ∧ (its = [] ∨ ∃ b o, a = some ⟨b, o, none⟩ ∧ S b ∧ RulesL w0 (besideN (.node k x s ns its)) w S b o ns its)) ∧
    (j = 13 ∨ j = 14 → ∃ a c, r = .iface (if j = 13 then 122 else 123) (.slice a its.length c) ∧ (its = [] ∨ ∃ b o, a = some ⟨b, o, none⟩ ∧ S b ∧ SchemasL w0 w S b o its)) ∧
    PlainR w0 bn w S j (.node k x s ns its) r
/-- Schemas, one behind the other. -/
def SchemasL (w0 : World) (w : World) (S : Nat → Prop) (b : Nat) : Nat → List Tr → Prop
  | _, [] => True
  | i, .node k x s ns its :: ts => (∃ a c, w.cell? ⟨b, i, none⟩ = some (.slice a its.length c) ∧ (its = [] ∨ ∃ b' o, a = some ⟨b', o, none⟩ ∧ S b' ∧ RulesL w0 (besideN (.node k x s ns its)) w S b' o ns its)) ∧ SchemasL w0 w S b (i + 1) ts
end
/-- The rules of a schema. -/
def RowR (w0 : World) (bn : List ByteArray) (w : World) (S : Nat → Prop) (a : Option Addr) (ns : List ByteArray) (its : List Tr) : Prop := its = [] ∨ ∃ b o, a = some ⟨b, o, none⟩ ∧ S b ∧ RulesL w0 bn w S b o ns its
def Kept (S : Nat → Prop) (w w' : World) : Prop := ∀ k, S k → k < w.heap.size → w'.heap[k]? = w.heap[k]?
theorem Kept.cell {S : Nat → Prop} {w w' : World} (h : Kept S w w') {p : Addr} {v : Value} (hc : w.cell? p = some v) (hS : S p.block) : w'.cell? p = some v := (World.cell?_of_block (w := w) (h _ hS (lt_of_cell hc))).trans hc
theorem PlainR.keep {w0 w w' : World} {bn : List ByteArray} {S T : Nat → Prop} (hk : Kept S w w') (hT : ∀ k, S k → T k) {j : Nat} {t : Tr} {r : Value} (h : PlainR w0 bn w S j t r) : PlainR w0 bn w' T j t r := by
  obtain ⟨h0, h1, h2, h4, h6⟩ := h
  refine ⟨h0, h1, fun e => ?_, fun e => ?_, h6⟩
  · obtain ⟨m, e1, e2, e3⟩ := h2 e
    exact ⟨m, e1, hT m e2, e3.keep (hk m e2 e3.lt)⟩
  · obtain ⟨mo, e1, e2⟩ := h4 e
    refine ⟨mo, e1, fun hne => ?_⟩
    obtain ⟨m, e3, e4, e5⟩ := e2 hne
    exact ⟨m, e3, hT m e4, e5.keep (hk m e4 e5.lt)⟩
mutual
theorem RulesL.keep {w0 : World} {bn : List ByteArray} {w w' : World} {S T : Nat → Prop} (hk : Kept S w w') (hT : ∀ k, S k → T k) {b : Nat} (hb : S b) : (i : Nat) → (ns : List ByteArray) → (its : List Tr) → RulesL w0 bn w S b i ns its → RulesL w0 bn w' T b i ns its
  | _, _, [], _ => by unfold RulesL; trivial
  | i, ns, t :: ts, h => by
    unfold RulesL at *
    obtain ⟨h1, ⟨r, h2, h3⟩, h4⟩ := h
    exact ⟨hk.cell h1 hb, ⟨r, hk.cell h2 hb, RuleR.keep hk hT _ t r h3⟩, RulesL.keep hk hT hb (i + 2) ns.tail ts h4⟩
theorem RuleR.keep {w0 : World} {bn : List ByteArray} {w w' : World} {S T : Nat → Prop} (hk : Kept S w w') (hT : ∀ k, S k → T k) : (j : Nat) → (t : Tr) → (r : Value) → RuleR w0 bn w S j t r → RuleR w0 bn w' T j t r
  | j, .node k x s ns its, r, h => by
    unfold RuleR at *
    obtain ⟨h0, h1, h2, h3, h4⟩ := h
    refine ⟨h0, fun e => ?_, fun e => ?_, fun e => ?_, h4.keep hk hT⟩
    · obtain ⟨m, a, c, e1, e2, e3, e4⟩ := h1 e
      refine ⟨m, a, c, e1, hT m e2, e3.keep (hk m e2 e3.lt), ?_⟩
      rcases e4 with e4 | ⟨b, o, e5, e6, e7⟩
      · exact .inl e4
      · exact .inr ⟨b, o, e5, hT b e6, SchemasL.keep hk hT e6 o its e7⟩
    · obtain ⟨a, c, e1, e4⟩ := h2 e
      refine ⟨a, c, e1, ?_⟩
      rcases e4 with e4 | ⟨b, o, e5, e6, e7⟩
      · exact .inl e4
      · exact .inr ⟨b, o, e5, hT b e6, RulesL.keep hk hT e6 o ns its e7⟩
    · obtain ⟨a, c, e1, e4⟩ := h3 e
      refine ⟨a, c, e1, ?_⟩
      rcases e4 with e4 | ⟨b, o, e5, e6, e7⟩
      · exact .inl e4
      · exact .inr ⟨b, o, e5, hT b e6, SchemasL.keep hk hT e6 o its e7⟩
theorem SchemasL.keep {w0 : World} {w w' : World} {S T : Nat → Prop} (hk : Kept S w w') (hT : ∀ k, S k → T k) {b : Nat} (hb : S b) : (i : Nat) → (its : List Tr) → SchemasL w0 w S b i its → SchemasL w0 w' T b i its
  | _, [], _ => by unfold SchemasL; trivial
  | i, .node k x s ns its :: ts, h => by
    unfold SchemasL at *
    obtain ⟨⟨a, c, h1, h2⟩, h3⟩ := h
    refine ⟨⟨a, c, hk.cell h1 hb, ?_⟩, SchemasL.keep hk hT hb (i + 1) ts h3⟩
    rcases h2 with h2 | ⟨b', o, e1, e2, e3⟩
    · exact .inl h2
    · exact .inr ⟨b', o, e1, hT b' e2, RulesL.keep hk hT e2 o ns its e3⟩
end
theorem RowR.keep {w0 : World} {bn : List ByteArray} {w w' : World} {S T : Nat → Prop} (hk : Kept S w w') (hT : ∀ k, S k → T k) {a : Option Addr} {ns : List ByteArray} {its : List Tr} (h : RowR w0 bn w S a ns its) : RowR w0 bn w' T a ns its := by
  rcases h with h | ⟨b, o, h1, h2, h3⟩
  · exact .inl h
  · exact .inr ⟨b, o, h1, hT b h2, RulesL.keep hk hT h2 o ns its h3⟩
/-- Cells of rules. -/
def RulesX (w0 : World) (bn : List ByteArray) (w : World) (S : Nat → Prop) : List Value → List ByteArray → List Tr → Prop
  | xs, _, [] => xs = []
  | xs, ns, t :: ts => ∃ r rest, xs = .string (ns.headD noS) :: r :: rest ∧ RuleR w0 bn w S (wordNo (ns.headD noS)) t r ∧ RulesX w0 bn w S rest ns.tail ts
theorem RulesX.keep {w0 : World} {bn : List ByteArray} {w w' : World} {S T : Nat → Prop} (hk : Kept S w w') (hT : ∀ k, S k → T k) : {its : List Tr} → {xs : List Value} → {ns : List ByteArray} → RulesX w0 bn w S xs ns its → RulesX w0 bn w' T xs ns its
  | [], _, _, h => h
  | _ :: _, _, _, h => by
    unfold RulesX at *
    obtain ⟨r, rest, h1, h2, h3⟩ := h
    exact ⟨r, rest, h1, RuleR.keep hk hT _ _ _ h2, RulesX.keep hk hT h3⟩
theorem RulesX.snoc {w0 : World} {bn : List ByteArray} {w : World} {S : Nat → Prop} {t : Tr} {s : ByteArray} {r : Value} (hr : RuleR w0 bn w S (wordNo s) t r) : {its : List Tr} → {ns : List ByteArray} → {xs : List Value} → ns.length = its.length → RulesX w0 bn w S xs ns its → RulesX w0 bn w S (xs ++ [.string s, r]) (ns ++ [s]) (its ++ [t])
  | [], ns, xs, hl, h => by
    have hn : ns = [] := List.eq_nil_of_length_eq_zero hl
    unfold RulesX at h
    subst hn h
    show RulesX w0 bn w S [.string s, r] [s] [t]
    unfold RulesX
    exact ⟨r, [], rfl, hr, by unfold RulesX; rfl⟩
  | u :: us, ns, xs, hl, h => by
    cases ns with
    | nil => simp at hl
    | cons n ns =>
      unfold RulesX at h
      obtain ⟨q, rest, rfl, h2, h3⟩ := h
      show RulesX w0 bn w S (.string n :: q :: (rest ++ [.string s, r])) (n :: (ns ++ [s])) (u :: (us ++ [t]))
      unfold RulesX
      exact ⟨q, rest ++ [.string s, r], rfl, h2, RulesX.snoc hr (by simpa using hl) h3⟩
theorem RulesX.row {w0 : World} {bn : List ByteArray} {w : World} {S : Nat → Prop} {b : Nat} : {its : List Tr} → {xs : List Value} → {ns : List ByteArray} → {i : Nat} → RulesX w0 bn w S xs ns its → (∀ j u, xs[j]? = some u → w.cell? ⟨b, i + j, none⟩ = some u) → RulesL w0 bn w S b i ns its
  | [], _, _, _, _, _ => by unfold RulesL; trivial
  | t :: ts, xs, ns, i, h, hc => by
    unfold RulesX at h
    obtain ⟨r, rest, rfl, h2, h3⟩ := h
    unfold RulesL
    refine ⟨by simpa using hc 0 _ rfl, ⟨r, hc 1 _ rfl, h2⟩, RulesX.row h3 fun j u hj => ?_⟩
    have := hc (j + 2) u (by simpa using hj)
    rw [show i + (j + 2) = i + 2 + j by omega] at this
    exact this
/-- Cells of schemas. -/
def SchemasX (w0 : World) (w : World) (S : Nat → Prop) : List Value → List Tr → Prop
  | xs, [] => xs = []
  | xs, t :: ts => ∃ a c rest, xs = .slice a t.items.length c :: rest ∧ RowR w0 (besideN t) w S a t.names t.items ∧ SchemasX w0 w S rest ts
theorem SchemasX.keep {w0 : World} {w w' : World} {S T : Nat → Prop} (hk : Kept S w w') (hT : ∀ k, S k → T k) : {its : List Tr} → {xs : List Value} → SchemasX w0 w S xs its → SchemasX w0 w' T xs its
  | [], _, h => h
  | _ :: _, _, h => by
    unfold SchemasX at *
    obtain ⟨a, c, rest, h1, h2, h3⟩ := h
    exact ⟨a, c, rest, h1, h2.keep hk hT, SchemasX.keep hk hT h3⟩
theorem SchemasX.snoc {w0 : World} {w : World} {S : Nat → Prop} {t : Tr} {a : Option Addr} {c : Nat} (hr : RowR w0 (besideN t) w S a t.names t.items) : {its : List Tr} → {xs : List Value} → SchemasX w0 w S xs its → SchemasX w0 w S (xs ++ [.slice a t.items.length c]) (its ++ [t])
  | [], xs, h => by
    unfold SchemasX at h
    subst h
    show SchemasX w0 w S [.slice a t.items.length c] [t]
    unfold SchemasX
    exact ⟨a, c, [], rfl, hr, by unfold SchemasX; rfl⟩
  | u :: us, xs, h => by
    unfold SchemasX at h
    obtain ⟨a', c', rest, rfl, h2, h3⟩ := h
    show SchemasX w0 w S (.slice a' u.items.length c' :: (rest ++ [.slice a t.items.length c])) (u :: (us ++ [t]))
    unfold SchemasX
    exact ⟨a', c', _, rfl, h2, SchemasX.snoc hr h3⟩
theorem SchemasX.row {w0 : World} {w : World} {S : Nat → Prop} {b : Nat} : {its : List Tr} → {xs : List Value} → {i : Nat} → SchemasX w0 w S xs its → (∀ j u, xs[j]? = some u → w.cell? ⟨b, i + j, none⟩ = some u) → SchemasL w0 w S b i its
  | [], _, _, _, _ => by unfold SchemasL; trivial
  | .node k x s ns its :: ts, xs, i, h, hc => by
    unfold SchemasX at h
    obtain ⟨a, c, rest, rfl, h2, h3⟩ := h
    unfold SchemasL
    refine ⟨⟨a, c, by have := hc 0 _ rfl; rw [Nat.add_zero] at this; exact this, h2⟩, SchemasX.row h3 fun j u hj => ?_⟩
    have := hc (j + 1) u (by simpa using hj)
    rw [show i + (j + 1) = i + 1 + j by omega] at this
    exact this

/-- What stands ahead of the reader: the Value (as it lies in w0), the table, the types' names. -/
structure EnvS (w0 w : World) (br m : Nat) : Prop where
  tab : Tab w br m
  tys : TysAt w
  lt : 0 < br
  base : w0.heap.size ≤ br
  old : Below w0.heap.size w0 w
theorem EnvS.fr {w0 w w' : World} {br m : Nat} (h : EnvS w0 w br m) (hF : Fr (fun b => b = br) w w') : EnvS w0 w' br m :=
  ⟨h.tab.fr hF, h.tys.keep (hF.block _ (lt_of_cell (h.tys 0 (by decide))) (by have := h.lt; show ¬ _ = br; omega)), h.lt, h.base, h.old.trans (hF.below h.old.size (fun i e => by subst e; exact h.base))⟩
/-- What reading a schema leaves. -/
structure SchemaPost (w0 w : World) (br m d n : Nat) (t : Tr) (e : Ending) (w' : World) : Prop where
  fr : Fr (fun b => b = br) w w'
  rd : ReaderAt w' br m (schemaS d n t).1
  le : (schemaS d n t).1 ≤ 128
  ret : ∃ a l c, e = .returned (.tuple #[.slice a l c, .int .i64 (schemaS d n t).2]) ∧ ((schemaS d n t).2 = 0 → l = t.items.length ∧ RowR w0 (besideN t) w' (fun k => w.heap.size ≤ k ∧ k < w'.heap.size) a t.names t.items)
/-- A tree's schema is read. -/
def SchemaOk (w0 : World) (t : Tr) : Prop := ∀ (d n br m : Nat) (u : V5) (w : World), d ≤ 9 → n ≤ 128 → VRep w0 t u.cs → SmallT t → NamesT t → EnvS w0 w br m → ReaderAt w br m n →
  Calls Tryz.prog 21 #[.pointer (some ⟨br, 0, none⟩), u.v, .int .i64 (d : Int)] w (SchemaPost w0 w br m d n t)
end Go.Proofs.YtbcfkajcmbckbaaGreatDoor
/-! schema: several schemas are read. -/
namespace Go.Proofs.YtbcfkajcmbckbaaGreatDoor
open Go Go.RowKit

theorem A21 : (Tryz.prog.info? 58).map (fun i => (i.zero, i.size, i.bytes)) = some (some (.slice none 0 0), 1, 24) := by kernel_rfl
theorem listS_at {d n : Nat} {its : List Tr} {q : Nat} {t : Tr} (h : its[q]? = some t) : listS d n (its.drop q) = if (schemaS d n t).2 = 0 then listS d (schemaS d n t).1 (its.drop (q + 1)) else schemaS d n t := by
  have hlt := (List.getElem?_eq_some_iff.1 h).1
  rw [List.drop_eq_getElem_cons hlt, (List.getElem?_eq_some_iff.1 h).2, listS_cons]
/-- What reading several leaves. -/
structure ListPost (w0 w : World) (br m d n : Nat) (its : List Tr) (e : Ending) (w' : World) : Prop where
  fr : Fr (fun b => b = br) w w'
  rd : ReaderAt w' br m (listS d n its).1
  le : (listS d n its).1 ≤ 128
  ret : ∃ a l c, e = .returned (.tuple #[.slice a l c, .int .i64 (listS d n its).2]) ∧ ((listS d n its).2 = 0 → l = its.length ∧ (its = [] ∨ ∃ b o, a = some ⟨b, o, none⟩ ∧ (w.heap.size ≤ b ∧ b < w'.heap.size) ∧ SchemasL w0 w' (fun k => w.heap.size ≤ k ∧ k < w'.heap.size) b o its))
/-- Schemas that are being read. -/
structure ListSt (w0 w : World) (br m : Nat) (its : List Tr) (q n : Nat) (a : Option Addr) (c : Nat) (wr : World) : Prop where
  fr : Fr (fun b => b = br) w wr
  rd : ReaderAt wr br m n
  le : n ≤ 128
  row : ∃ xs, Rw wr w.heap.size 1 a q c xs ∧ ∃ S : Nat → Prop, (∀ k, S k → w.heap.size ≤ k ∧ k < wr.heap.size ∧ ¬ blkOf a k) ∧ SchemasX w0 wr S xs (its.take q)
/-- Where an append has gone: what stands elsewhere is kept. -/
theorem appd_kept {w1 w2 : World} {lo size n m c g o c2 : Nat} {a : Option Addr} {ys : List Value} (hA : Appd w1 lo size a n m c ys g o c2 w2) {k : Nat} (hk : k < w1.heap.size) (hg : k ≠ g) : w2.heap[k]? = w1.heap[k]? := by
  refine hA.fr.block k hk fun h => ?_
  obtain ⟨⟨o', s', e⟩, h2⟩ := h
  rcases hA.at' with ⟨h3, -, -⟩ | ⟨-, -, h3⟩
  · rw [e] at h3; cases h3; exact hg rfl
  · omega
/-- The new row is the old one, or stands in new memory. -/
theorem appd_g {w1 w2 : World} {lo size n m c g o c2 : Nat} {a : Option Addr} {ys : List Value} (hA : Appd w1 lo size a n m c ys g o c2 w2) : blkOf a g ∨ g = w1.heap.size := by
  rcases hA.at' with ⟨h3, -, -⟩ | ⟨h3, -, -⟩
  · exact .inl ⟨o, none, h3⟩
  · exact .inr h3
theorem appd_ge {w1 w2 : World} {lo size n m c g o c2 : Nat} {a : Option Addr} {xs ys : List Value} (hR : Rw w1 lo size a n c xs) (hm : 0 < m) (hlo : lo ≤ w1.heap.size) (hA : Appd w1 lo size a n m c ys g o c2 w2) : lo ≤ g ∧ (g < w1.heap.size ∨ g = w1.heap.size) := by
  rcases hA.at' with ⟨h3, -, h4⟩ | ⟨h3, -, -⟩
  · rcases hR.pt with h0 | ⟨b, o', e, h1, h2, -⟩
    · omega
    · rw [h3] at e; cases e; exact ⟨h1, .inl h2⟩
  · exact ⟨by omega, .inr h3⟩
theorem appd_size {w1 w2 : World} {lo size n m c g o c2 : Nat} {a : Option Addr} {ys : List Value} (hA : Appd w1 lo size a n m c ys g o c2 w2) : w1.heap.size ≤ w2.heap.size := hA.fr.size
theorem ListSt.next {w0 w wr w1 w2 : World} {br m q n n1 : Nat} {its : List Tr} {t : Tr} {a a1 : Option Addr} {c c1 g o c2 : Nat} {xs : List Value} {o1 : Obj} (h : ListSt w0 w br m its q n a c wr) (hbr : br < w.heap.size) (hRw : Rw (w1.alloc o1) w.heap.size 1 a q c xs) (hx : ∃ S : Nat → Prop, (∀ k, S k → w.heap.size ≤ k ∧ k < wr.heap.size ∧ ¬ blkOf a k) ∧ SchemasX w0 wr S xs (its.take q)) (ht : its[q]? = some t)
    (hF1 : Fr (fun b => b = br) wr w1) (hr1 : ReaderAt w1 br m n1) (hn1 : n1 ≤ 128) (hab : ∀ k, blkOf a k → 0 < c → k < wr.heap.size) (hR : RowR w0 (besideN t) w1 (fun k => wr.heap.size + 1 ≤ k ∧ k < w1.heap.size) a1 t.names t.items)
    (hA : Appd (w1.alloc o1) w.heap.size 1 a q 1 c (xs ++ [.slice a1 t.items.length c1]) g o c2 w2) : ListSt w0 w br m its (q + 1) n1 (some ⟨g, o, none⟩) c2 w2 := by
  have hs := h.fr.size
  have hs1 := hF1.size
  have hsA : (w1.alloc o1).heap.size = w1.heap.size + 1 := World.size_alloc _ _
  obtain ⟨hg1, hg2⟩ := appd_ge hRw (by decide) (by omega) hA
  have hbk : w2.heap[br]? = (w1.alloc o1).heap[br]? := appd_kept hA (by omega) (by omega)
  obtain ⟨S, hS1, hS2⟩ := hx
  refine ⟨?_, ?_, hn1, _, hA.row, fun k => w.heap.size ≤ k ∧ k < w1.heap.size ∧ k ≠ g, ?_, ?_⟩
  · refine (h.fr.trans (hF1.alloc o1)).next hA.fr fun i hi => ?_
    obtain ⟨⟨o', s', e⟩, h2⟩ := hi
    rcases hRw.pt with h0 | ⟨b, o2, e2, h3, -⟩
    · omega
    · rw [e] at e2; cases e2; exact .inr h3
  · exact (hbk.trans (Below.heap_alloc _ _ _ (by omega))).trans hr1
  · rintro k ⟨k1, k2, k3⟩
    have := appd_size hA
    refine ⟨k1, by omega, fun e => ?_⟩
    obtain ⟨o', s', e⟩ := e
    cases e
    exact k3 rfl
  · have hk2 : ∀ k, k < w1.heap.size → k ≠ g → w2.heap[k]? = w1.heap[k]? := fun k hk hne => (appd_kept hA (by omega) hne).trans (Below.heap_alloc _ _ _ hk)
    have e3 : its.take (q + 1) = its.take q ++ [t] := by rw [List.take_add_one, ht]; rfl
    rw [e3]
    refine SchemasX.snoc ?_ ?_
    · refine hR.keep (fun k hk _ => hk2 k hk.2 ?_) (fun k hk => ⟨by omega, hk.2, ?_⟩)
      all_goals
        intro e
        subst e
        rcases appd_g hA with hb | hb
        · rcases hA.at' with ⟨-, -, h4⟩ | ⟨h4, -, -⟩
          · have := hab _ hb (by omega); omega
          · omega
        · omega
    · refine hS2.keep (fun k hk hlt => ?_) (fun k hk => ?_)
      · obtain ⟨k1, k2, k3⟩ := hS1 k hk
        have hne : k ≠ g := by
          intro e; subst e
          rcases appd_g hA with hb | hb
          · exact k3 hb
          · omega
        exact (hk2 k (by omega) hne).trans (hF1.block k k2 (by show ¬ k = br; omega))
      · obtain ⟨k1, k2, k3⟩ := hS1 k hk
        refine ⟨k1, by omega, fun e => ?_⟩
        subst e
        rcases appd_g hA with hb | hb
        · exact k3 hb
        · omega
theorem ListSt.fin {w0 w wr : World} {br m q n : Nat} {its : List Tr} {a : Option Addr} {c : Nat} (h : ListSt w0 w br m its q n a c wr) (hq : q = its.length) : its = [] ∨ ∃ b o, a = some ⟨b, o, none⟩ ∧ (w.heap.size ≤ b ∧ b < wr.heap.size) ∧ SchemasL w0 wr (fun k => w.heap.size ≤ k ∧ k < wr.heap.size) b o its := by
  obtain ⟨xs, hR, S, hS, hX⟩ := h.row
  rw [hq, List.take_length] at hX
  cases its with
  | nil => exact .inl rfl
  | cons t ts =>
    right
    rcases hR.pt with h0 | ⟨b, o, e, h1, h2, h3, h4⟩
    · have := hR.le; simp at hq; omega
    · refine ⟨b, o, e, ⟨h1, h2⟩, SchemasX.row (hX.keep (fun _ _ _ => rfl) (fun k hk => ⟨(hS k hk).1, (hS k hk).2.1⟩)) fun j u hj => ?_⟩
      obtain ⟨b', o', e', -, h5⟩ := hR.cell hj
      rw [e] at e'; cases e'
      exact h5
set_option maxHeartbeats 8000000 in
set_option maxRecDepth 100000 in
theorem schemas_any (w0 : World) (its : List Tr) (hO : Hid (∀ t ∈ its, SchemaOk w0 t)) (d n br m : Nat) (ai : Option Addr) (ci : Nat) (w : World) (hd : d ≤ 8) (hn : n ≤ 128) (hI : Hid (RowT w0 ai its)) (hS : Hid (SmallL its)) (hN : Hid (NamesL its)) (hl : its.length ≤ 1759218604390) (hE : Hid (EnvS w0 w br m)) (hR : Hid (ReaderAt w br m n)) :
    Calls Tryz.prog 58 #[.pointer (some ⟨br, 0, none⟩), .slice ai its.length ci, .int .i64 (d : Int)] w (ListPost w0 w br m (d + 1) n its) := by
  obtain ⟨ri, hri, hri1, hri2, hri3⟩ := info_parts A21
  have hbr := hid_of hR.out.lt
  obtain ⟨N, hNN⟩ : ∃ N, Hid (listS (d + 1) n its = N) := ⟨_, rfl⟩
  have hd1 : (d : Int) + 1 ≤ 100 := by omega
  have hd0 : (0 : Int) ≤ (d : Int) := by omega
  have hc1 : (((d + 1 : Nat) : Int)) = (d : Int) + 1 := by omega
  go_enter Tryz.func58, Tryz.ntmps58
  go_wp2_with fail
  go_loopw [8, 15] (fun l i wr => ∃ (q n' : Nat) (a : Option Addr) (c : Nat), q ≤ its.length ∧ i = .int .i64 q ∧ l = .slice a q c ∧ Hid (ListSt w0 w br m its q n' a c wr) ∧ Hid (listS (d + 1) n' (its.drop q) = N)) (fun _ i _ => its.length - (intOf i).toNat)
  case atStart => exact ⟨0, n, none, 0, Nat.zero_le _, rfl, rfl, ⟨Fr.refl _ _, hR.out, hn, [], Rw.nil _ _ _ _, fun _ => False, fun _ h => h.elim, rfl⟩, hNN⟩
  case round =>
    obtain ⟨q, n', a, c, hq, rfl, rfl, hL, hM⟩ := hrel
    by_cases hlt : q < its.length
    · obtain ⟨t, ht⟩ : ∃ t, Hid (its[q]? = some t) := ⟨_, hid_e (List.getElem?_eq_getElem hlt)⟩
      obtain ⟨g, o, hai, hg, hV⟩ := hI.out.resolve_left (by intro e; subst e; simp at hlt)
      obtain ⟨cs, hCs, hr⟩ := VRepL.at its o q t hV ht.out
      obtain ⟨v, rfl⟩ := vrep_v5 hr
      have hEr := hid_of (hE.out.fr hL.out.fr)
      unfold V5.cs five at hCs
      have z0 := (hEr.out.old.cell (p := ⟨g, o + q * 5 + 0, none⟩) hg).trans (hCs 0 _ rfl)
      have z1 := (hEr.out.old.cell (p := ⟨g, o + q * 5 + 1, none⟩) hg).trans (hCs 1 _ rfl)
      have z2 := (hEr.out.old.cell (p := ⟨g, o + q * 5 + 2, none⟩) hg).trans (hCs 2 _ rfl)
      have z3 := (hEr.out.old.cell (p := ⟨g, o + q * 5 + 3, none⟩) hg).trans (hCs 3 _ rfl)
      have z4 := (hEr.out.old.cell (p := ⟨g, o + q * 5 + 4, none⟩) hg).trans (hCs 4 _ rfl)
      simp only [Nat.add_zero] at z0
      have hi : (q : Int) < (its.length : Int) := by omega
      have hq1 : Hid ((q + 1) ≤ maxLen ∧ (q + 1) * 24 ≤ 140737488355328) := by refine ⟨?_, ?_⟩; unfold maxLen; omega; omega
      rw [hai]
      have hcall := fun o1 => hid_of (hO.out t (List.mem_of_getElem? ht.out) (d + 1) n' br m v (wr.alloc o1) (by omega) hL.out.le hr (SmallL.at hS.out ht.out) (NamesL.at hN.out ht.out) (hEr.out.fr ((Fr.refl _ _).alloc o1)) (hL.out.rd.keep ((Below.refl _ _).alloc (Nat.le_refl _) o1)))
      have hst := hid_of (listS_at (d := d + 1) (n := n') ht.out)
      obtain ⟨N1, hN1⟩ : ∃ N, Hid (schemaS (d + 1) n' t = N) := ⟨_, rfl⟩
      rw [hN1.out] at hst
      unfold V5.v at hcall
      rw [hc1] at hcall
      clear hV hCs hr hg hc1
      go_wp2_with fail
      refine (hcall _).out.mono ?_
      rintro e W1 hP
      obtain ⟨a1, l1, c1, rfl, hret⟩ := hP.ret
      have hrd := hP.rd
      have hle := hP.le
      have hfr := ((Fr.refl (fun b => b = br) wr).alloc (.cells #[.int .i64 v.k, .int .i64 v.x, .string v.s, .slice v.an v.ln v.cn, .slice v.ai v.li v.ci] 25)).trans hP.fr
      rw [World.size_alloc] at hret
      rw [hN1.out] at hret hrd hle ⊢
      clear hP hcall z0 z1 z2 z3 z4 hN1
      obtain ⟨n1, e1⟩ := N1
      simp only at hst hret hrd hle ⊢
      by_cases h0 : e1 = 0
      · subst h0
        obtain ⟨hl1, hRow⟩ := hret rfl
        subst hl1
        have hM2 : Hid (listS (d + 1) n1 (its.drop (q + 1)) = N) := by rw [Hid, ← hM.out, hst.out, if_pos rfl]
        obtain ⟨xs, hRw, hX⟩ := hL.out.row
        have hab : ∀ k, blkOf a k → 0 < c → w.heap.size ≤ k ∧ k < wr.heap.size := by
          rintro k ⟨o', s', e⟩ hc
          rcases hRw.pt with h0 | ⟨b, o2, e2, h3, h4, -⟩
          · omega
          · rw [e] at e2; cases e2; exact ⟨h3, h4⟩
        have hRw1 : Rw (W1.alloc (.cells #[.slice a1 t.items.length c1] 58)) w.heap.size 1 a q c xs := by
          rcases Nat.eq_zero_or_pos c with hc | hc
          · refine ⟨hRw.len, hRw.le, hRw.mx, .inl hc⟩
          · refine hRw.keep (by have := hfr.size; rw [World.size_alloc]; omega) fun b hb hlt => ?_
            obtain ⟨hb1, hb2⟩ := hab b hb hc
            exact (Below.heap_alloc _ _ _ (by have := hfr.size; omega)).trans (hfr.block b hb2 (by have := hbr.out; show ¬ b = br; omega))
        have hsrc := hid_of (Src.of_block (P := Tryz.prog) (size := 1) Tryz.underlying107 (heap_alloc_new W1 (.cells #[.slice a1 t.items.length c1] 58)) 1 1 rfl (by intro u hu; simp at hu; subst hu; rfl))
        have hnext := fun g o c2 w2 hA => hid_of (ListSt.next (c1 := c1) (g := g) (o := o) (c2 := c2) (w2 := w2) (o1 := .cells #[.slice a1 t.items.length c1] 58) hL.out hbr.out hRw1 hX ht.out hfr hrd hle (fun k hk hc => (hab k hk hc).2) hRow hA)
        have hbase : Hid (w.heap.size ≤ (W1.alloc (.cells #[.slice a1 t.items.length c1] 58)).heap.size) := by
          have h1 := hL.out.fr.size; have h2 := hfr.size; show _ ≤ _; rw [World.size_alloc]; omega
        replace hRw1 := hid_of hRw1
        clear hst hret hX hRow hrd hle hRw hab hfr
        go_wp2_with (at_builtin; refine wpList_append_rw _ rfl _ _ 107 rfl 58 ri _ 1 24 Tryz.underlying107 hri hri1 hri2 hri3 rfl w.heap.size a q c xs rfl hRw1.out.len hRw1.out.le hRw1.out.mx hRw1.out.rd _ rfl 1 _ hsrc.out (fun _ => hRw1.out) (by decide) hq1.out.1 hq1.out.2 hbase.out ?_; intro g2 o2 c2 W3 hA; replace hnext := hnext g2 o2 c2 W3 hA)
        go_roundw
        case rel => exact ⟨q + 1, n1, some ⟨g2, o2, none⟩, c2, by omega, by go_num, rfl, hnext, hM2⟩
        case measure => simp [intOf]; omega
      · have hb0 : (e1 != 0) = true := by simpa using h0
        have hfin : Hid (N = (n1, e1)) := by rw [Hid, ← hM.out, hst.out, if_neg h0]
        clear hst
        go_wp2_with fail
        go_ret2
        refine ⟨hL.out.fr.trans hfr, ?_, ?_, none, 0, 0, ?_, ?_⟩
        all_goals rw [hNN.out, hfin.out]
        · exact hrd
        · exact hle
        · rfl
        · exact fun e => absurd e h0
    · have e : its.drop q = [] := List.drop_eq_nil_of_le (by omega)
      have hi : ¬ (q : Int) < (its.length : Int) := by omega
      have hfin : Hid (N = (n', 0)) := by rw [Hid, ← hM.out, e]; rfl
      have hqe : Hid (q = its.length) := by show q = _; omega
      clear hlt e
      go_wp2_with fail
      go_ret2
      refine ⟨hL.out.fr, ?_, ?_, a, q, c, ?_, ?_⟩
      all_goals rw [hNN.out, hfin.out]
      · exact hL.out.rd
      · exact hL.out.le
      · rfl
      · exact fun _ => ⟨hqe.out, hL.out.fin hqe.out⟩
end Go.Proofs.YtbcfkajcmbckbaaGreatDoor
/-! schema: the makers that read schemas. -/
namespace Go.Proofs.YtbcfkajcmbckbaaGreatDoor
open Go Go.RowKit

/-- What a maker leaves. -/
structure RulePost (w0 : World) (bn : List ByteArray) (w : World) (br m d n j : Nat) (t : Tr) (e : Ending) (w' : World) : Prop where
  fr : Fr (fun b => b = br) w w'
  rd : ReaderAt w' br m (ruleS d n j t).1
  le : (ruleS d n j t).1 ≤ 128
  ret : ∃ v, e = .returned (.tuple #[v, .int .i64 (ruleS d n j t).2]) ∧ ((ruleS d n j t).2 = 0 → RuleR w0 bn w' (fun k => w.heap.size ≤ k ∧ k < w'.heap.size) j t v)
/-- What a maker is given. -/
structure Gv (w0 w : World) (br m d n : Nat) (t : Tr) (u : V5) : Prop where
  d8 : d ≤ 8
  le : n ≤ 128
  rep : VRep w0 t u.cs
  small : SmallT t
  names : NamesT t
  env : EnvS w0 w br m
  rd : ReaderAt w br m n
theorem rep_row {w : World} {t : Tr} {v : V5} (h : VRep w t v.cs) : RowT w v.ai t.items ∧ v.li = t.items.length := by
  obtain ⟨k, x, s, ns, is⟩ := t
  unfold VRep V5.cs five at h
  obtain ⟨nm, a, c, e, -, -, h4⟩ := h
  simp only [List.cons.injEq, Value.slice.injEq, and_true] at e
  obtain ⟨-, -, -, -, e1, e2, -⟩ := e
  rw [e1]
  exact ⟨h4, e2⟩
theorem small_parts {t : Tr} (h : SmallT t) : t.items.length ≤ 1759218604390 ∧ t.names.length ≤ 8796093021952 ∧ (∀ n ∈ t.names, n.size ≤ 140737488351232) ∧ SmallL t.items ∧ t.text.size ≤ 140737488351232 := by
  obtain ⟨k, x, s, ns, its⟩ := t
  unfold SmallT at h
  obtain ⟨h1, h2, h3, h4, h5⟩ := h
  exact ⟨by show its.length ≤ _; omega, by show ns.length ≤ _; omega, h3, h5, h1⟩
theorem names_parts {t : Tr} (h : NamesT t) : (t.kind = 6 → t.names.length = t.items.length) ∧ NamesL t.items := by
  obtain ⟨k, x, s, ns, its⟩ := t
  unfold NamesT at h
  exact h
theorem rule_pos {j : Nat} (d n : Nat) (t : Tr) : ruleS d n j t = (if j = 0 then (n, if typeOk t.kind t.text t.items = true then 0 else 210) else
    if j = 1 then (n, if t.kind = 5 ∧ t.items ≠ [] then 0 else 210) else
    if j = 2 then (n, if t.kind = 5 ∧ t.items.all (fun t => t.kind == 4) = true then 0 else 210) else
    if j = 3 then (if t.kind = 6 then listS (d + 1) n t.items else (n, 210)) else
    if j = 4 then (n, if t.kind = 1 ∨ t.kind = 2 then 0 else 210) else
    if j = 5 ∨ j = 15 then schemaS (d + 1) n t else
    if j = 13 ∨ j = 14 then (if t.kind = 5 ∧ t.items ≠ [] then listS (d + 1) n t.items else (n, 210)) else
    if j = 16 then (n, 210) else (n, if t.kind = 3 ∧ leastOf j ≤ t.int then 0 else 210)) := by
  obtain ⟨k, x, s, ns, its⟩ := t
  rw [ruleS]
  rfl
theorem plain_none {w0 w : World} {bn : List ByteArray} {S : Nat → Prop} {j : Nat} (hj : j = 3 ∨ j = 5 ∨ j = 15 ∨ j = 13 ∨ j = 14) (t : Tr) (r : Value) : PlainR w0 bn w S j t r := by
  rcases hj with rfl | rfl | rfl | rfl | rfl <;> exact ⟨fun e => absurd e (by decide), fun e => absurd e (by decide), fun e => absurd e (by decide), fun e => absurd e (by decide), fun e1 e2 => absurd (And.intro e1 e2) (by decide)⟩
theorem ruleR_schema {w0 w : World} {bn : List ByteArray} {S : Nat → Prop} {j l c : Nat} {t : Tr} {a : Option Addr} (hj : j = 5 ∨ j = 15) (hl : l = t.items.length) (h : RowR w0 (besideN t) w S a t.names t.items) : RuleR w0 bn w S j t (.iface (if j = 5 then 117 else 124) (.slice a l c)) := by
  subst hl
  obtain ⟨k, x, s, ns, its⟩ := t
  unfold RuleR
  exact ⟨⟨_, _, rfl⟩, fun e => by omega, fun _ => ⟨a, c, rfl, h⟩, fun e => by omega, plain_none (by omega) _ _⟩
theorem ruleR_list {w0 w : World} {bn : List ByteArray} {S : Nat → Prop} {j l c : Nat} {t : Tr} {a : Option Addr} (hj : j = 13 ∨ j = 14) (hl : l = t.items.length) (h : t.items = [] ∨ ∃ b o, a = some ⟨b, o, none⟩ ∧ S b ∧ SchemasL w0 w S b o t.items) : RuleR w0 bn w S j t (.iface (if j = 13 then 122 else 123) (.slice a l c)) := by
  subst hl
  obtain ⟨k, x, s, ns, its⟩ := t
  unfold RuleR
  exact ⟨⟨_, _, rfl⟩, fun e => by omega, fun e => by omega, fun _ => ⟨a, c, rfl, h⟩, plain_none (by omega) _ _⟩
theorem SchemasL.wide {w0 w : World} {S T : Nat → Prop} {a : Option Addr} {its : List Tr} (hT : ∀ k, S k → T k) (h : its = [] ∨ ∃ b o, a = some ⟨b, o, none⟩ ∧ S b ∧ SchemasL w0 w S b o its) : its = [] ∨ ∃ b o, a = some ⟨b, o, none⟩ ∧ T b ∧ SchemasL w0 w T b o its := by
  rcases h with h | ⟨b, o, h1, h2, h3⟩
  · exact .inl h
  · exact .inr ⟨b, o, h1, hT b h2, SchemasL.keep (fun _ _ _ => rfl) hT h2 _ _ h3⟩
theorem Gv.alloc {w0 w : World} {br m d n : Nat} {t : Tr} {u : V5} (h : Gv w0 w br m d n t u) (o : Obj) : EnvS w0 (w.alloc o) br m ∧ ReaderAt (w.alloc o) br m n :=
  ⟨h.env.fr ((Fr.refl _ _).alloc o), h.rd.keep ((Below.refl _ _).alloc (Nat.le_refl _) o)⟩

set_option maxHeartbeats 2000000 in
set_option maxRecDepth 100000 in
theorem made_items (w0 : World) (bn : List ByteArray) (br m d n : Nat) (t : Tr) (u b : V5) (w : World) (h : Gv w0 w br m d n t u) (hO : SchemaOk w0 t) :
    Calls Tryz.prog 36 #[.pointer (some ⟨br, 0, none⟩), givenV u b d] w (RulePost w0 bn w br m d n 5 t) := by
  have hb0 := hid_of ((Fr.refl (fun b => b = br) w).alloc (givenO u b d))
  obtain ⟨x0, x1, x2, x3, x4, x5, x6, x7, x8, x9, x10⟩ := givenO_cells (heap_alloc_new w (givenO u b d))
  have hcall := hid_of (hO (d + 1) n br m u (w.alloc (givenO u b d)) (by have := h.d8; omega) h.le h.rep h.small h.names (h.alloc _).1 (h.alloc _).2)
  have hd1 : (d : Int) + 1 ≤ 100 := by have := h.d8; omega
  have hc1 : (((d + 1 : Nat) : Int)) = (d : Int) + 1 := by omega
  rw [hc1] at hcall
  have hsz : Hid ((w.alloc (givenO u b d)).heap.size = w.heap.size + 1) := World.size_alloc _ _
  unfold givenO at *
  unfold givenV
  unfold V5.v at hcall
  clear hc1 h
  go_enter Tryz.func36, Tryz.ntmps36
  go_wp2_with fail
  refine hcall.out.mono ?_
  rintro e W1 hP
  obtain ⟨a1, l1, c1, rfl, hret⟩ := hP.ret
  have hfin : Hid (RulePost w0 bn w br m d n 5 t (.returned (.tuple #[.iface 117 (.slice a1 l1 c1), .int .i64 (schemaS (d + 1) n t).2])) W1) := by
    have e : ruleS d n 5 t = schemaS (d + 1) n t := by rw [rule_pos]; simp
    refine ⟨hb0.out.trans hP.fr, ?_, ?_, .iface 117 (.slice a1 l1 c1), ?_, fun h0 => ?_⟩
    · rw [e]; exact hP.rd
    · rw [e]; exact hP.le
    · rw [e]
    · rw [e] at h0
      obtain ⟨hl, hr⟩ := hret h0
      exact ruleR_schema (j := 5) (by decide) hl (hr.keep (fun _ _ _ => rfl) (fun k hk => ⟨by have := hsz.out; omega, hk.2⟩))
  generalize (schemaS (d + 1) n t).2 = z at hfin ⊢
  clear hP hcall x0 x1 x2 x3 x4 x5 x6 x7 x8 x9 x10 hret
  go_wp2_with fail
  go_ret2
  exact hfin.out
set_option maxHeartbeats 2000000 in
set_option maxRecDepth 100000 in
theorem made_not (w0 : World) (bn : List ByteArray) (br m d n : Nat) (t : Tr) (u b : V5) (w : World) (h : Gv w0 w br m d n t u) (hO : SchemaOk w0 t) :
    Calls Tryz.prog 45 #[.pointer (some ⟨br, 0, none⟩), givenV u b d] w (RulePost w0 bn w br m d n 15 t) := by
  have hb0 := hid_of ((Fr.refl (fun b => b = br) w).alloc (givenO u b d))
  obtain ⟨x0, x1, x2, x3, x4, x5, x6, x7, x8, x9, x10⟩ := givenO_cells (heap_alloc_new w (givenO u b d))
  have hcall := hid_of (hO (d + 1) n br m u (w.alloc (givenO u b d)) (by have := h.d8; omega) h.le h.rep h.small h.names (h.alloc _).1 (h.alloc _).2)
  have hd1 : (d : Int) + 1 ≤ 100 := by have := h.d8; omega
  have hc1 : (((d + 1 : Nat) : Int)) = (d : Int) + 1 := by omega
  rw [hc1] at hcall
  have hsz : Hid ((w.alloc (givenO u b d)).heap.size = w.heap.size + 1) := World.size_alloc _ _
  unfold givenO at *
  unfold givenV
  unfold V5.v at hcall
  clear hc1 h
  go_enter Tryz.func45, Tryz.ntmps45
  go_wp2_with fail
  refine hcall.out.mono ?_
  rintro e W1 hP
  obtain ⟨a1, l1, c1, rfl, hret⟩ := hP.ret
  have hfin : Hid (RulePost w0 bn w br m d n 15 t (.returned (.tuple #[.iface 124 (.slice a1 l1 c1), .int .i64 (schemaS (d + 1) n t).2])) W1) := by
    have e : ruleS d n 15 t = schemaS (d + 1) n t := by rw [rule_pos]; simp
    refine ⟨hb0.out.trans hP.fr, ?_, ?_, .iface 124 (.slice a1 l1 c1), ?_, fun h0 => ?_⟩
    · rw [e]; exact hP.rd
    · rw [e]; exact hP.le
    · rw [e]
    · rw [e] at h0
      obtain ⟨hl, hr⟩ := hret h0
      exact ruleR_schema (j := 15) (by decide) hl (hr.keep (fun _ _ _ => rfl) (fun k hk => ⟨by have := hsz.out; omega, hk.2⟩))
  generalize (schemaS (d + 1) n t).2 = z at hfin ⊢
  clear hP hcall x0 x1 x2 x3 x4 x5 x6 x7 x8 x9 x10 hret
  go_wp2_with fail
  go_ret2
  exact hfin.out
set_option maxHeartbeats 4000000 in
set_option maxRecDepth 100000 in
theorem made_any (w0 : World) (bn : List ByteArray) (br m d n : Nat) (t : Tr) (u b : V5) (w : World) (h : Gv w0 w br m d n t u) (hO : Hid (∀ t' ∈ t.items, SchemaOk w0 t')) :
    Calls Tryz.prog 43 #[.pointer (some ⟨br, 0, none⟩), givenV u b d] w (RulePost w0 bn w br m d n 13 t) := by
  have hb0 := hid_of ((Fr.refl (fun b => b = br) w).alloc (givenO u b d))
  have hn0 := heap_alloc_new w (givenO u b d)
  have hs := hid_of (several_any u (w.alloc (givenO u b d)))
  have hE0 := hid_of (h.alloc (givenO u b d)).1
  have hR0 := hid_of (h.alloc (givenO u b d)).2
  have hbr := hid_of h.rd.lt
  have hd1 : (d : Int) + 1 ≤ 100 := by have := h.d8; omega
  obtain ⟨hrow, hli⟩ := rep_row h.rep
  have hkd := hid_of (vrep_head h.rep).1
  have hsz : Hid ((w.alloc (givenO u b d)).heap.size = w.heap.size + 1) := World.size_alloc _ _
  have hX0 := hn0
  obtain ⟨x0, x1, x2, x3, x4, x5, x6, x7, x8, x9, x10⟩ := givenO_cells hn0
  obtain ⟨r, hr⟩ : ∃ r, Hid (ruleS d n 13 t = r) := ⟨_, rfl⟩
  have hr2 : Hid ((if t.kind = 5 ∧ t.items ≠ [] then listS (d + 1) n t.items else (n, 210)) = r) := by
    rw [Hid, ← hr.out, rule_pos]; simp
  unfold givenO at *
  unfold givenV
  unfold V5.v at hs
  replace hrow := hid_of hrow
  replace hli := hid_of hli
  go_enter Tryz.func43, Tryz.ntmps43
  go_wp2_with fail
  generalize w.alloc (.cells #[.int .i64 u.k, .int .i64 u.x, .string u.s, .slice u.an u.ln u.cn, .slice u.ai u.li u.ci, .int .i64 b.k, .int .i64 b.x, .string b.s, .slice b.an b.ln b.cn, .slice b.ai b.li b.ci, .int .i64 (d : Int)] 88) = X at *
  refine hs.out.mono ?_
  rintro e W ⟨rfl, hb⟩
  have hbX := hid_of (hb0.out.trans (Fr.of_below hb))
  have hEW := hid_of (hE0.out.fr (Fr.of_below hb))
  have hRW := hid_of (hR0.out.keep hb)
  have t0 := stay hb x0
  have t4 := stay hb x4
  have t10 := stay hb x10
  clear hs x0 x1 x2 x3 x4 x5 x6 x7 x8 x9 x10 hb hb0 hn0 hX0
  by_cases hc : u.k = 5 ∧ 0 < u.li
  · have hc2 : Hid (listS (d + 1) n t.items = r) := by
      rw [Hid, ← hr2.out, if_pos ⟨by rw [hkd.out]; exact hc.1, fun e => by have := hli.out; rw [e] at this; have := hc.2; simp at *; omega⟩]
    rw [decide_eq_true hc]
    clear hc
    have hcall := hid_of (schemas_any w0 t.items hO d n br m u.ai u.ci W h.d8 h.le hrow (hid_of (small_parts h.small).2.2.2.1) (hid_of (names_parts h.names).2) (small_parts h.small).1 hEW hRW)
    rw [← hli.out] at hcall
    clear h
    go_wp2_with fail
    refine hcall.out.mono ?_
    rintro e W1 hP
    obtain ⟨a1, l1, c1, rfl, hret⟩ := hP.ret
    have hfin : Hid (RulePost w0 bn w br m d n 13 t (.returned (.tuple #[.iface 122 (.slice a1 l1 c1), .int .i64 (listS (d + 1) n t.items).2])) W1) := by
      have e : ruleS d n 13 t = listS (d + 1) n t.items := by rw [hr.out, hc2.out]
      refine ⟨hbX.out.trans hP.fr, ?_, ?_, .iface 122 (.slice a1 l1 c1), ?_, fun h0 => ?_⟩
      · rw [e]; exact hP.rd
      · rw [e]; exact hP.le
      · rw [e]
      · rw [e] at h0
        obtain ⟨hl, hr⟩ := hret h0
        exact ruleR_list (j := 13) (by decide) hl (SchemasL.wide (fun k hk => ⟨by have := hbX.out.size; omega, hk.2⟩) hr)
    generalize (listS (d + 1) n t.items).2 = z at hfin ⊢
    clear hP hcall hret t0 t4 t10
    go_wp2_with fail
    go_ret2
    exact hfin.out
  · have hc2 : Hid ((n, (210 : Int)) = r) := by
      rw [Hid, ← hr2.out, if_neg]
      rintro ⟨h1, h2⟩
      exact hc ⟨by rw [← hkd.out]; exact h1, by have := hli.out; have : 0 < t.items.length := List.length_pos_iff.2 h2; omega⟩
    rw [decide_eq_false hc]
    have hle := hid_of h.le
    clear hc h
    go_wp2_with fail
    go_ret2
    have e : ruleS d n 13 t = (n, 210) := by rw [hr.out, hc2.out]
    refine ⟨hbX.out, ?_, ?_, .nilIface, ?_, ?_⟩
    · rw [e]; exact hRW.out
    · rw [e]; exact hle.out
    · rw [e]; rfl
    · rw [e]; exact fun h => by cases h
set_option maxHeartbeats 4000000 in
set_option maxRecDepth 100000 in
theorem made_all (w0 : World) (bn : List ByteArray) (br m d n : Nat) (t : Tr) (u b : V5) (w : World) (h : Gv w0 w br m d n t u) (hO : Hid (∀ t' ∈ t.items, SchemaOk w0 t')) :
    Calls Tryz.prog 44 #[.pointer (some ⟨br, 0, none⟩), givenV u b d] w (RulePost w0 bn w br m d n 14 t) := by
  have hb0 := hid_of ((Fr.refl (fun b => b = br) w).alloc (givenO u b d))
  have hn0 := heap_alloc_new w (givenO u b d)
  have hs := hid_of (several_any u (w.alloc (givenO u b d)))
  have hE0 := hid_of (h.alloc (givenO u b d)).1
  have hR0 := hid_of (h.alloc (givenO u b d)).2
  have hbr := hid_of h.rd.lt
  have hd1 : (d : Int) + 1 ≤ 100 := by have := h.d8; omega
  obtain ⟨hrow, hli⟩ := rep_row h.rep
  have hkd := hid_of (vrep_head h.rep).1
  have hsz : Hid ((w.alloc (givenO u b d)).heap.size = w.heap.size + 1) := World.size_alloc _ _
  have hX0 := hn0
  obtain ⟨x0, x1, x2, x3, x4, x5, x6, x7, x8, x9, x10⟩ := givenO_cells hn0
  obtain ⟨r, hr⟩ : ∃ r, Hid (ruleS d n 14 t = r) := ⟨_, rfl⟩
  have hr2 : Hid ((if t.kind = 5 ∧ t.items ≠ [] then listS (d + 1) n t.items else (n, 210)) = r) := by
    rw [Hid, ← hr.out, rule_pos]; simp
  unfold givenO at *
  unfold givenV
  unfold V5.v at hs
  replace hrow := hid_of hrow
  replace hli := hid_of hli
  go_enter Tryz.func44, Tryz.ntmps44
  go_wp2_with fail
  generalize w.alloc (.cells #[.int .i64 u.k, .int .i64 u.x, .string u.s, .slice u.an u.ln u.cn, .slice u.ai u.li u.ci, .int .i64 b.k, .int .i64 b.x, .string b.s, .slice b.an b.ln b.cn, .slice b.ai b.li b.ci, .int .i64 (d : Int)] 88) = X at *
  refine hs.out.mono ?_
  rintro e W ⟨rfl, hb⟩
  have hbX := hid_of (hb0.out.trans (Fr.of_below hb))
  have hEW := hid_of (hE0.out.fr (Fr.of_below hb))
  have hRW := hid_of (hR0.out.keep hb)
  have t0 := stay hb x0
  have t4 := stay hb x4
  have t10 := stay hb x10
  clear hs x0 x1 x2 x3 x4 x5 x6 x7 x8 x9 x10 hb hb0 hn0 hX0
  by_cases hc : u.k = 5 ∧ 0 < u.li
  · have hc2 : Hid (listS (d + 1) n t.items = r) := by
      rw [Hid, ← hr2.out, if_pos ⟨by rw [hkd.out]; exact hc.1, fun e => by have := hli.out; rw [e] at this; have := hc.2; simp at *; omega⟩]
    rw [decide_eq_true hc]
    clear hc
    have hcall := hid_of (schemas_any w0 t.items hO d n br m u.ai u.ci W h.d8 h.le hrow (hid_of (small_parts h.small).2.2.2.1) (hid_of (names_parts h.names).2) (small_parts h.small).1 hEW hRW)
    rw [← hli.out] at hcall
    clear h
    go_wp2_with fail
    refine hcall.out.mono ?_
    rintro e W1 hP
    obtain ⟨a1, l1, c1, rfl, hret⟩ := hP.ret
    have hfin : Hid (RulePost w0 bn w br m d n 14 t (.returned (.tuple #[.iface 123 (.slice a1 l1 c1), .int .i64 (listS (d + 1) n t.items).2])) W1) := by
      have e : ruleS d n 14 t = listS (d + 1) n t.items := by rw [hr.out, hc2.out]
      refine ⟨hbX.out.trans hP.fr, ?_, ?_, .iface 123 (.slice a1 l1 c1), ?_, fun h0 => ?_⟩
      · rw [e]; exact hP.rd
      · rw [e]; exact hP.le
      · rw [e]
      · rw [e] at h0
        obtain ⟨hl, hr⟩ := hret h0
        exact ruleR_list (j := 14) (by decide) hl (SchemasL.wide (fun k hk => ⟨by have := hbX.out.size; omega, hk.2⟩) hr)
    generalize (listS (d + 1) n t.items).2 = z at hfin ⊢
    clear hP hcall hret t0 t4 t10
    go_wp2_with fail
    go_ret2
    exact hfin.out
  · have hc2 : Hid ((n, (210 : Int)) = r) := by
      rw [Hid, ← hr2.out, if_neg]
      rintro ⟨h1, h2⟩
      exact hc ⟨by rw [← hkd.out]; exact h1, by have := hli.out; have : 0 < t.items.length := List.length_pos_iff.2 h2; omega⟩
    rw [decide_eq_false hc]
    have hle := hid_of h.le
    clear hc h
    go_wp2_with fail
    go_ret2
    have e : ruleS d n 14 t = (n, 210) := by rw [hr.out, hc2.out]
    refine ⟨hbX.out, ?_, ?_, .nilIface, ?_, ?_⟩
    · rw [e]; exact hRW.out
    · rw [e]; exact hle.out
    · rw [e]; rfl
    · rw [e]; exact fun h => by cases h
end Go.Proofs.YtbcfkajcmbckbaaGreatDoor
/-! schema: the maker of properties. -/
namespace Go.Proofs.YtbcfkajcmbckbaaGreatDoor
open Go Go.RowKit

theorem props_rule {w0 w w1 w2 : World} {bn : List ByteArray} {br m d n c1 mb : Nat} {t : Tr} {a1 : Option Addr} {L1 : Nat} {X : World} (h6 : t.kind = 6) (hsz : X.heap.size = w.heap.size + 1) (hP : ListPost w0 X br m (d + 1) n t.items (.returned (.tuple #[.slice a1 L1 c1, .int .i64 (listS (d + 1) n t.items).2])) w1) (hret : (listS (d + 1) n t.items).2 = 0 → L1 = t.items.length ∧ (t.items = [] ∨ ∃ b o, a1 = some ⟨b, o, none⟩ ∧ (X.heap.size ≤ b ∧ b < w1.heap.size) ∧ SchemasL w0 w1 (fun k => X.heap.size ≤ k ∧ k < w1.heap.size) b o t.items))
    (hF : Fr (fun b => b = br) w X) (hb : Below w1.heap.size w1 w2) (hm : w1.heap.size ≤ mb) (hN : NumsAt w2 mb t.names.length (numsD t.names)) :
    RulePost w0 bn w br m d n 3 t (.returned (.tuple #[.iface 112 (.agg #[.map (some mb), .slice a1 L1 c1]), .int .i64 (listS (d + 1) n t.items).2])) w2 := by
  have e : ruleS d n 3 t = listS (d + 1) n t.items := by rw [rule_pos]; simp [h6]
  have hs1 := hP.fr.size
  refine ⟨(hF.trans hP.fr).trans (Fr.of_below hb), ?_, ?_, .iface 112 (.agg #[.map (some mb), .slice a1 L1 c1]), ?_, ?_⟩
  · rw [e]; exact hP.rd.keep hb
  · rw [e]; exact hP.le
  · rw [e]
  · rw [e]
    intro h0
    obtain ⟨hl, hr⟩ := hret h0
    obtain ⟨k, x, s, ns, its⟩ := t
    unfold RuleR
    refine ⟨⟨_, _, rfl⟩, fun _ => ⟨mb, a1, c1, ?_, ⟨by omega, hN.lt⟩, hN, ?_⟩, fun h => absurd h (by decide), fun h => absurd h (by decide), plain_none (.inl rfl) _ _⟩
    · rw [hl]; rfl
    · rcases hr with hr | ⟨b, o, h1, h2, h3⟩
      · exact .inl hr
      · have hsz2 := hb.size
        refine .inr ⟨b, o, h1, ⟨by omega, by omega⟩, SchemasL.keep (fun k hk hlt => hb.block k hlt) (fun k hk => ⟨by omega, by omega⟩) h2 _ _ h3⟩
set_option maxHeartbeats 4000000 in
set_option maxRecDepth 100000 in
theorem made_props (w0 : World) (bn : List ByteArray) (br m d n : Nat) (t : Tr) (u b : V5) (w : World) (h : Gv w0 w br m d n t u) (hO : Hid (∀ t' ∈ t.items, SchemaOk w0 t')) :
    Calls Tryz.prog 34 #[.pointer (some ⟨br, 0, none⟩), givenV u b d] w (RulePost w0 bn w br m d n 3 t) := by
  have hb0 := hid_of ((Fr.refl (fun b => b = br) w).alloc (givenO u b d))
  have hE0 := hid_of (h.alloc (givenO u b d)).1
  have hR0 := hid_of (h.alloc (givenO u b d)).2
  have hbr := hid_of h.rd.lt
  have hd1 : (d : Int) + 1 ≤ 100 := by have := h.d8; omega
  obtain ⟨hrow, hli⟩ := rep_row h.rep
  obtain ⟨hnam, hnl⟩ := rep_names h.rep
  have hkd := hid_of (vrep_head h.rep).1
  have hsz : Hid ((w.alloc (givenO u b d)).heap.size = w.heap.size + 1) := World.size_alloc _ _
  obtain ⟨x0, x1, x2, x3, x4, x5, x6, x7, x8, x9, x10⟩ := givenO_cells (heap_alloc_new w (givenO u b d))
  have hcall := hid_of (schemas_any w0 t.items hO d n br m u.ai u.ci (w.alloc (givenO u b d)) h.d8 h.le (hid_of hrow) (hid_of (small_parts h.small).2.2.2.1) (hid_of (names_parts h.names).2) (small_parts h.small).1 hE0 hR0)
  rw [← hli] at hcall
  have hsm := hid_of (small_parts h.small)
  have hle := hid_of h.le
  unfold givenO at *
  unfold givenV
  replace hrow := hid_of hrow
  replace hnam := hid_of hnam
  replace hnl := hid_of hnl
  clear hli h
  go_enter Tryz.func34, Tryz.ntmps34
  by_cases hk : u.k = 6
  · have hb6 : (u.k != 6) = false := by simp [hk]
    have hk6 : Hid (t.kind = 6) := by rw [Hid, hkd.out]; exact hk
    clear hk hkd
    go_wp2_with fail
    generalize w.alloc (.cells #[.int .i64 u.k, .int .i64 u.x, .string u.s, .slice u.an u.ln u.cn, .slice u.ai u.li u.ci, .int .i64 b.k, .int .i64 b.x, .string b.s, .slice b.an b.ln b.cn, .slice b.ai b.li b.ci, .int .i64 (d : Int)] 88) = X at *
    refine hcall.out.mono ?_
    rintro e W1 hP
    obtain ⟨a1, l1, c1, rfl, hret⟩ := hP.ret
    have t3 := hP.fr.cell x3 (by have := hbr.out; show ¬ w.heap.size = br; omega)
    have hE1 := hid_of (hE0.out.fr hP.fr)
    have hnum := hid_of (numbered_any u.an u.cn t.names W1 (hid_of (by rw [← hnl.out]; exact hnam.out.keep hE1.out.old)) (hid_of hsm.out.2.2.1) hsm.out.2.1)
    rw [← hnl.out] at hnum
    have hfin := fun mb w2 hb hm hN => hid_of (props_rule (bn := bn) (mb := mb) (w2 := w2) hk6.out hsz.out hP hret hb0.out hb hm hN)
    generalize (listS (d + 1) n t.items).2 = z at hfin ⊢
    clear hP hcall hret x0 x1 x2 x3 x4 x5 x6 x7 x8 x9 x10
    go_wp2_with fail
    refine hnum.out.mono ?_
    rintro e W2 ⟨mb, rfl, hm, hN, hb⟩
    rw [hnl.out] at hN
    replace hfin := hfin mb W2 hb hm hN
    clear hnum hm hN hb
    go_wp2_with fail
    go_ret2
    exact hfin.out
  · have hb6 : (u.k != 6) = true := by simp [hk]
    have e : Hid (ruleS d n 3 t = (n, 210)) := by rw [Hid, rule_pos]; simp [hkd.out, hk]
    clear hk hkd
    go_wp2_with fail
    go_ret2
    refine ⟨hb0.out, ?_, ?_, .nilIface, ?_, ?_⟩
    · rw [e.out]; exact hR0.out
    · rw [e.out]; exact hle.out
    · rw [e.out]; rfl
    · rw [e.out]; exact fun h => by cases h
end Go.Proofs.YtbcfkajcmbckbaaGreatDoor
/-! schema: one rule read, by every word. -/
namespace Go.Proofs.YtbcfkajcmbckbaaGreatDoor
open Go Go.RowKit

/-- What a rule's reading leaves: how many there are, the error, what was made. -/
def RuleQ (w0 : World) (bn : List ByteArray) (w : World) (br m : Nat) (res : Nat × Int) (j : Nat) (t : Tr) (v : Value) (z : Int) (w' : World) : Prop :=
  Fr (fun b => b = br) w w' ∧ ReaderAt w' br m res.1 ∧ res.1 ≤ 128 ∧ z = res.2 ∧ (res.2 = 0 → RuleR w0 bn w' (fun k => w.heap.size ≤ k ∧ k < w'.heap.size) j t v)
theorem RuleR.some {w0 w : World} {bn : List ByteArray} {S : Nat → Prop} {j : Nat} {t : Tr} {v : Value} (h : RuleR w0 bn w S j t v) : ∃ ty x, v = .iface ty x := by
  obtain ⟨k, x, s, ns, its⟩ := t
  unfold RuleR at h
  exact h.1
theorem ruleQ_of {w0 w W w' : World} {bn : List ByteArray} {br m d n j : Nat} {t : Tr} {e : Ending} (hF : Fr (fun b => b = br) w W) (h : RulePost w0 bn W br m d n j t e w') : ∃ v z, e = .returned (.tuple #[v, .int .i64 z]) ∧ RuleQ w0 bn w br m (ruleS d n j t) j t v z w' := by
  obtain ⟨v, h1, h2⟩ := h.ret
  have hs := hF.size
  exact ⟨v, _, h1, hF.trans h.fr, h.rd, h.le, rfl, fun e => RuleR.keep (fun _ _ _ => rfl) (fun k hk => ⟨by omega, hk.2⟩) _ _ _ (h2 e)⟩
theorem ruleR_plain {w0 w : World} {bn : List ByteArray} {S : Nat → Prop} {j : Nat} {t : Tr} {v : Value} (hj : j ≠ 3 ∧ j ≠ 5 ∧ j ≠ 15 ∧ j ≠ 13 ∧ j ≠ 14) (h0 : ∃ ty x, v = .iface ty x) (h : PlainR w0 bn w S j t v) : RuleR w0 bn w S j t v := by
  obtain ⟨k, x, s, ns, its⟩ := t
  unfold RuleR
  exact ⟨h0, fun e => by omega, fun e => by omega, fun e => by omega, h⟩
/-- A maker that makes no more than new memory. -/
theorem ruleQ_plain {w0 w W w' : World} {bn : List ByteArray} {br m n j : Nat} {t : Tr} {v : Value} {z z' : Int} (hF : Fr (fun b => b = br) w W) (hR : ReaderAt W br m n) (hn : n ≤ 128) (hb : Below W.heap.size W w') (hz : z = z') (hj : j ≠ 3 ∧ j ≠ 5 ∧ j ≠ 15 ∧ j ≠ 13 ∧ j ≠ 14) (hv : z = 0 → (∃ ty x, v = .iface ty x) ∧ PlainR w0 bn w' (fun k => w.heap.size ≤ k ∧ k < w'.heap.size) j t v) : RuleQ w0 bn w br m (n, z') j t v z w' := by
  subst hz
  exact ⟨hF.trans (Fr.of_below hb), hR.keep hb, hn, rfl, fun e => ruleR_plain hj (hv e).1 (hv e).2⟩
theorem plain_bound {w0 w : World} {bn : List ByteArray} {S : Nat → Prop} {j : Nat} {t : Tr} {r : Value} (hj : 6 ≤ j ∧ j ≤ 12) (h : r = .iface (bndT j) (.agg #[.int .i64 t.int, fnV (bndF j)])) : (∃ ty x, r = .iface ty x) ∧ PlainR w0 bn w S j t r :=
  ⟨⟨_, _, h⟩, fun e => by omega, fun e => by omega, fun e => by omega, fun e => by omega, fun _ _ => h⟩
theorem plain_type {w0 w : World} {bn : List ByteArray} {S : Nat → Prop} {t : Tr} {r : Value} (h : TypesV (tyL t) r) : (∃ ty x, r = .iface ty x) ∧ PlainR w0 bn w S 0 t r :=
  ⟨⟨_, _, h⟩, fun _ => h, fun e => absurd e (by decide), fun e => absurd e (by decide), fun e => absurd e (by decide), fun e => absurd e (by decide)⟩
theorem plain_enum {w0 w : World} {bn : List ByteArray} {S : Nat → Prop} {t : Tr} {a : Option Addr} {l c : Nat} {r : Value} (h : r = .iface 103 (.slice a l c)) (hl : l = t.items.length) (hR : RowT w0 a t.items) : (∃ ty x, r = .iface ty x) ∧ PlainR w0 bn w S 1 t r := by
  subst hl
  exact ⟨⟨_, _, h⟩, fun e => absurd e (by decide), fun _ => ⟨a, c, h, hR⟩, fun e => absurd e (by decide), fun e => absurd e (by decide), fun e => absurd e (by decide)⟩
theorem plain_req {w0 w : World} {bn : List ByteArray} {S : Nat → Prop} {t : Tr} {lo : Nat} {r : Value} (h : ReqV w lo t.items r) (hS : ∀ k, lo ≤ k → k < w.heap.size → S k) : (∃ ty x, r = .iface ty x) ∧ PlainR w0 bn w S 2 t r := by
  obtain ⟨m, h1, h2, h3⟩ := h
  exact ⟨⟨_, _, h1⟩, fun e => absurd e (by decide), fun e => absurd e (by decide), fun _ => ⟨m, h1, hS m h2 h3.lt, h3⟩, fun e => absurd e (by decide), fun e => absurd e (by decide)⟩
theorem plain_add {w0 w : World} {bn : List ByteArray} {S : Nat → Prop} {t : Tr} {lo : Nat} {r : Value} (h : AddV w lo bn t.kind r) (hS : ∀ k, lo ≤ k → k < w.heap.size → S k) : (∃ ty x, r = .iface ty x) ∧ PlainR w0 bn w S 4 t r := by
  obtain ⟨mo, h1, h2⟩ := h
  refine ⟨⟨_, _, h1⟩, fun e => absurd e (by decide), fun e => absurd e (by decide), fun e => absurd e (by decide), fun _ => ⟨mo, h1, fun hne => ?_⟩, fun e => absurd e (by decide)⟩
  obtain ⟨m, h3, h4, h5⟩ := h2 hne
  exact ⟨m, h3, hS m h4 h5.lt, h5⟩
theorem vrep_int {w : World} {t : Tr} {v : V5} (h : VRep w t v.cs) : t.int = v.x := by
  obtain ⟨k, x, s, ns, is⟩ := t
  unfold VRep V5.cs five at h
  obtain ⟨nm, a, c, e, -⟩ := h
  simp only [List.cons.injEq, Value.int.injEq, Value.string.injEq, true_and] at e
  exact e.2.1.symm
theorem no_0 : wordNo wType = 0 := by decide +kernel
theorem no_1 : wordNo wEnum = 1 := by decide +kernel
theorem no_2 : wordNo wRequired = 2 := by decide +kernel
theorem no_3 : wordNo wProperties = 3 := by decide +kernel
theorem no_4 : wordNo wAdditional = 4 := by decide +kernel
theorem no_5 : wordNo wItems = 5 := by decide +kernel
theorem no_6 : wordNo wMinItems = 6 := by decide +kernel
theorem no_7 : wordNo wMaxItems = 7 := by decide +kernel
theorem no_8 : wordNo wMinLength = 8 := by decide +kernel
theorem no_9 : wordNo wMaxLength = 9 := by decide +kernel
theorem no_10 : wordNo wMinimum = 10 := by decide +kernel
theorem no_11 : wordNo wMaximum = 11 := by decide +kernel
theorem no_12 : wordNo wDivisible = 12 := by decide +kernel
theorem no_13 : wordNo wAnyOf = 13 := by decide +kernel
theorem no_14 : wordNo wAllOf = 14 := by decide +kernel
theorem no_15 : wordNo wNot = 15 := by decide +kernel
theorem no_16 {s : ByteArray} (h : s ≠ wType ∧ s ≠ wEnum ∧ s ≠ wRequired ∧ s ≠ wProperties ∧ s ≠ wAdditional ∧ s ≠ wItems ∧ s ≠ wMinItems ∧ s ≠ wMaxItems ∧ s ≠ wMinLength ∧ s ≠ wMaxLength ∧ s ≠ wMinimum ∧ s ≠ wMaximum ∧ s ≠ wDivisible ∧ s ≠ wAnyOf ∧ s ≠ wAllOf ∧ s ≠ wNot) : wordNo s = 16 := by
  obtain ⟨h0, h1, h2, h3, h4, h5, h6, h7, h8, h9, h10, h11, h12, h13, h14, h15⟩ := h
  unfold wordNo
  simp [h0, h1, h2, h3, h4, h5, h6, h7, h8, h9, h10, h11, h12, h13, h14, h15]
theorem en_type (args : Array Value) (W : World) : (callFunc 31 args).run Tryz.prog W = .ok (.enter 31 args) W := enters_of Tryz.func31 (by kernel_rfl) rfl args W
theorem en_enum (args : Array Value) (W : World) : (callFunc 32 args).run Tryz.prog W = .ok (.enter 32 args) W := enters_of Tryz.func32 (by kernel_rfl) rfl args W
theorem en_required (args : Array Value) (W : World) : (callFunc 33 args).run Tryz.prog W = .ok (.enter 33 args) W := enters_of Tryz.func33 (by kernel_rfl) rfl args W
theorem en_properties (args : Array Value) (W : World) : (callFunc 34 args).run Tryz.prog W = .ok (.enter 34 args) W := enters_of Tryz.func34 (by kernel_rfl) rfl args W
theorem en_additional (args : Array Value) (W : World) : (callFunc 35 args).run Tryz.prog W = .ok (.enter 35 args) W := enters_of Tryz.func35 (by kernel_rfl) rfl args W
theorem en_items (args : Array Value) (W : World) : (callFunc 36 args).run Tryz.prog W = .ok (.enter 36 args) W := enters_of Tryz.func36 (by kernel_rfl) rfl args W
theorem en_minItems (args : Array Value) (W : World) : (callFunc 61 args).run Tryz.prog W = .ok (.enter 61 args) W := enters_of Tryz.func61 (by kernel_rfl) rfl args W
theorem en_minLength (args : Array Value) (W : World) : (callFunc 62 args).run Tryz.prog W = .ok (.enter 62 args) W := enters_of Tryz.func62 (by kernel_rfl) rfl args W
theorem en_minimum (args : Array Value) (W : World) : (callFunc 63 args).run Tryz.prog W = .ok (.enter 63 args) W := enters_of Tryz.func63 (by kernel_rfl) rfl args W
theorem en_anyOf (args : Array Value) (W : World) : (callFunc 43 args).run Tryz.prog W = .ok (.enter 43 args) W := enters_of Tryz.func43 (by kernel_rfl) rfl args W
theorem en_allOf (args : Array Value) (W : World) : (callFunc 44 args).run Tryz.prog W = .ok (.enter 44 args) W := enters_of Tryz.func44 (by kernel_rfl) rfl args W
theorem en_not (args : Array Value) (W : World) : (callFunc 45 args).run Tryz.prog W = .ok (.enter 45 args) W := enters_of Tryz.func45 (by kernel_rfl) rfl args W
set_option maxHeartbeats 4000000 in
set_option maxRecDepth 100000 in
theorem rule_any (w0 : World) (br m d n : Nat) (s : ByteArray) (t bt : Tr) (u b : V5) (w : World) (h : Gv w0 w br m d n t u) (hb : VRep w0 bt b.cs) (hbs : SmallT bt) (hO : SchemaOk w0 t) (hOs : ∀ t' ∈ t.items, SchemaOk w0 t') :
    Calls Tryz.prog 46 #[.pointer (some ⟨br, 0, none⟩), .string s, givenV u b d] w fun e w' => ∃ v z, e = .returned (.tuple #[v, .int .i64 z]) ∧ RuleQ w0 (besideN bt) w br m (if n = 128 then (128, 211) else ruleS d (n + 1) (wordNo s) t) (wordNo s) t v z w' := by
  by_cases hn : n = 128
  · subst hn
    rw [if_pos rfl]
    refine (rule_many br m d s u b w h.rd).mono ?_
    rintro e w' ⟨rfl, hB⟩
    exact ⟨_, _, rfl, Fr.of_below hB, h.rd.keep hB, by decide, rfl, fun e => by cases e⟩
  rw [if_neg hn]
  have hn' : n < 128 := by have := h.le; omega
  obtain ⟨⟨b0, b1, b2, b3, b4, b5, b6, hT, hbb⟩, hmb⟩ := h.env.tab
  have hg : ∀ W, Fr (fun b => b = br) w W → ReaderAt W br m (n + 1) → Gv w0 W br m d (n + 1) t u := fun W hF hR => ⟨h.d8, by omega, h.rep, h.small, h.names, h.env.fr hF, hR⟩
  have hkd := vrep_head h.rep
  obtain ⟨hrow, hli⟩ := rep_row h.rep
  have hsm := small_parts h.small
  have hpos : (u.k = 5 ∧ 0 < u.li) = (t.kind = 5 ∧ t.items ≠ []) := by
    rw [hkd.1, hli]
    simp [List.length_pos_iff]
  rcases MapKept.findNow_spec (d := .string) (k := .string s) (by simp [MapKept.IsKey]) (entriesS b0 b1 b2 b3 b4 b5 b6).toList 0 (by intro x hx; simp [entriesS] at hx; rcases hx with rfl | rfl | rfl | rfl | rfl | rfl | rfl | rfl | rfl | rfl | rfl | rfl | rfl | rfl | rfl | rfl <;> simp [MapKept.IsKey]) with ⟨hf, hno⟩ | ⟨i, e, hf, hl, hk⟩
  · have h16 : wordNo s = 16 := no_16 ⟨fun e => hno _ (List.mem_of_getElem? (show (entriesS b0 b1 b2 b3 b4 b5 b6).toList[0]? = some _ from rfl)) (by rw [e]), fun e => hno _ (List.mem_of_getElem? (show (entriesS b0 b1 b2 b3 b4 b5 b6).toList[1]? = some _ from rfl)) (by rw [e]), fun e => hno _ (List.mem_of_getElem? (show (entriesS b0 b1 b2 b3 b4 b5 b6).toList[2]? = some _ from rfl)) (by rw [e]), fun e => hno _ (List.mem_of_getElem? (show (entriesS b0 b1 b2 b3 b4 b5 b6).toList[3]? = some _ from rfl)) (by rw [e]), fun e => hno _ (List.mem_of_getElem? (show (entriesS b0 b1 b2 b3 b4 b5 b6).toList[4]? = some _ from rfl)) (by rw [e]), fun e => hno _ (List.mem_of_getElem? (show (entriesS b0 b1 b2 b3 b4 b5 b6).toList[5]? = some _ from rfl)) (by rw [e]), fun e => hno _ (List.mem_of_getElem? (show (entriesS b0 b1 b2 b3 b4 b5 b6).toList[6]? = some _ from rfl)) (by rw [e]), fun e => hno _ (List.mem_of_getElem? (show (entriesS b0 b1 b2 b3 b4 b5 b6).toList[7]? = some _ from rfl)) (by rw [e]), fun e => hno _ (List.mem_of_getElem? (show (entriesS b0 b1 b2 b3 b4 b5 b6).toList[8]? = some _ from rfl)) (by rw [e]), fun e => hno _ (List.mem_of_getElem? (show (entriesS b0 b1 b2 b3 b4 b5 b6).toList[9]? = some _ from rfl)) (by rw [e]), fun e => hno _ (List.mem_of_getElem? (show (entriesS b0 b1 b2 b3 b4 b5 b6).toList[10]? = some _ from rfl)) (by rw [e]), fun e => hno _ (List.mem_of_getElem? (show (entriesS b0 b1 b2 b3 b4 b5 b6).toList[11]? = some _ from rfl)) (by rw [e]), fun e => hno _ (List.mem_of_getElem? (show (entriesS b0 b1 b2 b3 b4 b5 b6).toList[12]? = some _ from rfl)) (by rw [e]), fun e => hno _ (List.mem_of_getElem? (show (entriesS b0 b1 b2 b3 b4 b5 b6).toList[13]? = some _ from rfl)) (by rw [e]), fun e => hno _ (List.mem_of_getElem? (show (entriesS b0 b1 b2 b3 b4 b5 b6).toList[14]? = some _ from rfl)) (by rw [e]), fun e => hno _ (List.mem_of_getElem? (show (entriesS b0 b1 b2 b3 b4 b5 b6).toList[15]? = some _ from rfl)) (by rw [e])⟩
    rw [h16]
    refine (rule_none br m n d s u b _ _ w h.rd hn' hT.map (by omega) hf).mono ?_
    rintro e w' ⟨rfl, hR, hF⟩
    refine ⟨_, _, rfl, ?_⟩
    rw [rule_pos]
    simp only [Nat.reduceEqDiff, if_false, if_true, or_self]
    exact ⟨hF, hR, by show n + 1 ≤ 128; omega, rfl, fun e => by cases e⟩
  rw [Nat.zero_add] at hf
  have hi : i < 16 := by
    have := (List.getElem?_eq_some_iff.1 hl).1
    simpa [entriesS] using this
  match i, hi, hl, hf with
  | 0, _, hl, hf =>
    have he : e = (entriesS b0 b1 b2 b3 b4 b5 b6)[0] := by simpa [entriesS] using hl.symm
    subst he
    have hs : s = wType := by simpa [entriesS] using hk.symm
    subst hs
    rw [no_0]
    refine rule_found br m n d 0 31 #[] _ u b _ _ w h.rd hn' hT.map (by omega) hf en_type _ fun W hF hR => ?_
    refine (types_any _ u b d t W (VRep.keep (hg W hF hR).env.old _ _ h.rep) (hg W hF hR).env.tys (by omega)).mono ?_
    rintro e w' ⟨v, z, rfl, hz, hB, hv⟩
    refine ⟨v, z, rfl, ?_⟩
    have hr : ruleS d (n + 1) 0 t = (n + 1, typeZ u.k u.s t.items) := by
      rw [rule_pos]
      simp only [Nat.reduceEqDiff, if_false, if_true]
      unfold typeZ
      rw [hkd.1, hkd.2]
    rw [hr]
    exact ruleQ_plain hF hR (by omega) hB hz (by decide) (fun e => plain_type (hv e))
  | 1, _, hl, hf =>
    have he : e = (entriesS b0 b1 b2 b3 b4 b5 b6)[1] := by simpa [entriesS] using hl.symm
    subst he
    have hs : s = wEnum := by simpa [entriesS] using hk.symm
    subst hs
    rw [no_1]
    refine rule_found br m n d 1 32 #[] _ u b _ _ w h.rd hn' hT.map (by omega) hf en_enum _ fun W hF hR => ?_
    refine (enum_any _ u b d W).mono ?_
    rintro e w' ⟨v, z, rfl, hz, hv', hB⟩
    refine ⟨v, z, rfl, ?_⟩
    have hr : ruleS d (n + 1) 1 t = (n + 1, someZ u) := by
      rw [rule_pos]
      simp only [Nat.reduceEqDiff, if_false, if_true]
      unfold someZ
      simp only [hpos]
    rw [hr]
    exact ruleQ_plain hF hR (by omega) hB hz (by decide) (fun e => plain_enum (hv' e) hli hrow)
  | 2, _, hl, hf =>
    have he : e = (entriesS b0 b1 b2 b3 b4 b5 b6)[2] := by simpa [entriesS] using hl.symm
    subst he
    have hs : s = wRequired := by simpa [entriesS] using hk.symm
    subst hs
    rw [no_2]
    refine rule_found br m n d 2 33 #[] _ u b _ _ w h.rd hn' hT.map (by omega) hf en_required _ fun W hF hR => ?_
    refine (required_any _ u b d t.items W hli (RowT.keep hrow (hg W hF hR).env.old) hsm.2.2.2.1 (by omega)).mono ?_
    rintro e w' ⟨v, z, rfl, hz, hB, hv⟩
    refine ⟨v, z, rfl, ?_⟩
    have hr : ruleS d (n + 1) 2 t = (n + 1, reqZ u.k t.items) := by
      rw [rule_pos]
      simp only [Nat.reduceEqDiff, if_false, if_true]
      unfold reqZ
      rw [hkd.1]
    rw [hr]
    exact ruleQ_plain hF hR (by omega) hB hz (by decide) (fun e => plain_req (hv e) (fun k h1 h2 => ⟨Nat.le_trans hF.size h1, h2⟩))
  | 3, _, hl, hf =>
    have he : e = (entriesS b0 b1 b2 b3 b4 b5 b6)[3] := by simpa [entriesS] using hl.symm
    subst he
    have hs : s = wProperties := by simpa [entriesS] using hk.symm
    subst hs
    rw [no_3]
    refine rule_found br m n d 3 34 #[] _ u b _ _ w h.rd hn' hT.map (by omega) hf en_properties _ fun W hF hR => ?_
    exact (made_props w0 (besideN bt) br m d (n + 1) t u b W (hg W hF hR) hOs).mono fun e w' hP => ruleQ_of hF hP
  | 4, _, hl, hf =>
    have he : e = (entriesS b0 b1 b2 b3 b4 b5 b6)[4] := by simpa [entriesS] using hl.symm
    subst he
    have hs : s = wAdditional := by simpa [entriesS] using hk.symm
    subst hs
    rw [no_4]
    refine rule_found br m n d 4 35 #[] _ u b _ _ w h.rd hn' hT.map (by omega) hf en_additional _ fun W hF hR => ?_
    refine (additional_any _ u b d bt W (VRep.keep (hg W hF hR).env.old _ _ hb) hbs).mono ?_
    rintro e w' ⟨v, z, rfl, hz, hB, hv⟩
    refine ⟨v, z, rfl, ?_⟩
    have hr : ruleS d (n + 1) 4 t = (n + 1, addZ u.k) := by
      rw [rule_pos]
      simp only [Nat.reduceEqDiff, if_false, if_true]
      unfold addZ
      rw [hkd.1]
    rw [hr]
    exact ruleQ_plain hF hR (by omega) hB hz (by decide) (fun e => plain_add (by rw [hkd.1]; exact hv e) (fun k h1 h2 => ⟨Nat.le_trans hF.size h1, h2⟩))
  | 5, _, hl, hf =>
    have he : e = (entriesS b0 b1 b2 b3 b4 b5 b6)[5] := by simpa [entriesS] using hl.symm
    subst he
    have hs : s = wItems := by simpa [entriesS] using hk.symm
    subst hs
    rw [no_5]
    refine rule_found br m n d 5 36 #[] _ u b _ _ w h.rd hn' hT.map (by omega) hf en_items _ fun W hF hR => ?_
    exact (made_items w0 (besideN bt) br m d (n + 1) t u b W (hg W hF hR) hO).mono fun e w' hP => ruleQ_of hF hP
  | 6, _, hl, hf =>
    have he : e = (entriesS b0 b1 b2 b3 b4 b5 b6)[6] := by simpa [entriesS] using hl.symm
    subst he
    have hs : s = wMinItems := by simpa [entriesS] using hk.symm
    subst hs
    rw [no_6]
    refine rule_found br m n d 6 61 #[.pointer (some ⟨b0, 0, none⟩), .pointer (some ⟨b0 + 1, 0, none⟩)] _ u b _ _ w h.rd hn' hT.map (by omega) hf en_minItems _ fun W hF hR => ?_
    have hBx : BoxesAt W b0 0 38 := hT.x0.keep fun k hk e => hF.block k hk (by show ¬ k = br; omega)
    refine (made_itemsOf _ u b d b0 _ _ W hBx).mono ?_
    rintro e w' ⟨v, z, rfl, hz, hv, hB⟩
    refine ⟨v, z, rfl, ?_⟩
    have hr : ruleS d (n + 1) 6 t = (n + 1, boundZ u 0) := by
      rw [rule_pos]
      simp only [Nat.reduceEqDiff, if_false, or_self]
      have hlo : leastOf 6 = 0 := by decide
      rw [hlo]
      unfold boundZ
      have hx : t.int = u.x := vrep_int h.rep
      rw [hkd.1, hx]
    rw [hr]
    have hx : t.int = u.x := vrep_int h.rep
    exact ruleQ_plain hF hR (by omega) hB hz (by decide) (fun e => plain_bound (by decide) (by rw [hx]; exact hv e))
  | 7, _, hl, hf =>
    have he : e = (entriesS b0 b1 b2 b3 b4 b5 b6)[7] := by simpa [entriesS] using hl.symm
    subst he
    have hs : s = wMaxItems := by simpa [entriesS] using hk.symm
    subst hs
    rw [no_7]
    refine rule_found br m n d 7 61 #[.pointer (some ⟨b1, 0, none⟩), .pointer (some ⟨b1 + 1, 0, none⟩)] _ u b _ _ w h.rd hn' hT.map (by omega) hf en_minItems _ fun W hF hR => ?_
    have hBx : BoxesAt W b1 0 39 := hT.x1.keep fun k hk e => hF.block k hk (by show ¬ k = br; omega)
    refine (made_itemsOf _ u b d b1 _ _ W hBx).mono ?_
    rintro e w' ⟨v, z, rfl, hz, hv, hB⟩
    refine ⟨v, z, rfl, ?_⟩
    have hr : ruleS d (n + 1) 7 t = (n + 1, boundZ u 0) := by
      rw [rule_pos]
      simp only [Nat.reduceEqDiff, if_false, or_self]
      have hlo : leastOf 7 = 0 := by decide
      rw [hlo]
      unfold boundZ
      have hx : t.int = u.x := vrep_int h.rep
      rw [hkd.1, hx]
    rw [hr]
    have hx : t.int = u.x := vrep_int h.rep
    exact ruleQ_plain hF hR (by omega) hB hz (by decide) (fun e => plain_bound (by decide) (by rw [hx]; exact hv e))
  | 8, _, hl, hf =>
    have he : e = (entriesS b0 b1 b2 b3 b4 b5 b6)[8] := by simpa [entriesS] using hl.symm
    subst he
    have hs : s = wMinLength := by simpa [entriesS] using hk.symm
    subst hs
    rw [no_8]
    refine rule_found br m n d 8 62 #[.pointer (some ⟨b2, 0, none⟩), .pointer (some ⟨b2 + 1, 0, none⟩)] _ u b _ _ w h.rd hn' hT.map (by omega) hf en_minLength _ fun W hF hR => ?_
    have hBx : BoxesAt W b2 0 38 := hT.x2.keep fun k hk e => hF.block k hk (by show ¬ k = br; omega)
    refine (made_charactersOf _ u b d b2 _ _ W hBx).mono ?_
    rintro e w' ⟨v, z, rfl, hz, hv, hB⟩
    refine ⟨v, z, rfl, ?_⟩
    have hr : ruleS d (n + 1) 8 t = (n + 1, boundZ u 0) := by
      rw [rule_pos]
      simp only [Nat.reduceEqDiff, if_false, or_self]
      have hlo : leastOf 8 = 0 := by decide
      rw [hlo]
      unfold boundZ
      have hx : t.int = u.x := vrep_int h.rep
      rw [hkd.1, hx]
    rw [hr]
    have hx : t.int = u.x := vrep_int h.rep
    exact ruleQ_plain hF hR (by omega) hB hz (by decide) (fun e => plain_bound (by decide) (by rw [hx]; exact hv e))
  | 9, _, hl, hf =>
    have he : e = (entriesS b0 b1 b2 b3 b4 b5 b6)[9] := by simpa [entriesS] using hl.symm
    subst he
    have hs : s = wMaxLength := by simpa [entriesS] using hk.symm
    subst hs
    rw [no_9]
    refine rule_found br m n d 9 62 #[.pointer (some ⟨b3, 0, none⟩), .pointer (some ⟨b3 + 1, 0, none⟩)] _ u b _ _ w h.rd hn' hT.map (by omega) hf en_minLength _ fun W hF hR => ?_
    have hBx : BoxesAt W b3 0 39 := hT.x3.keep fun k hk e => hF.block k hk (by show ¬ k = br; omega)
    refine (made_charactersOf _ u b d b3 _ _ W hBx).mono ?_
    rintro e w' ⟨v, z, rfl, hz, hv, hB⟩
    refine ⟨v, z, rfl, ?_⟩
    have hr : ruleS d (n + 1) 9 t = (n + 1, boundZ u 0) := by
      rw [rule_pos]
      simp only [Nat.reduceEqDiff, if_false, or_self]
      have hlo : leastOf 9 = 0 := by decide
      rw [hlo]
      unfold boundZ
      have hx : t.int = u.x := vrep_int h.rep
      rw [hkd.1, hx]
    rw [hr]
    have hx : t.int = u.x := vrep_int h.rep
    exact ruleQ_plain hF hR (by omega) hB hz (by decide) (fun e => plain_bound (by decide) (by rw [hx]; exact hv e))
  | 10, _, hl, hf =>
    have he : e = (entriesS b0 b1 b2 b3 b4 b5 b6)[10] := by simpa [entriesS] using hl.symm
    subst he
    have hs : s = wMinimum := by simpa [entriesS] using hk.symm
    subst hs
    rw [no_10]
    refine rule_found br m n d 10 63 #[.pointer (some ⟨b4, 0, none⟩), .pointer (some ⟨b4 + 1, 0, none⟩)] _ u b _ _ w h.rd hn' hT.map (by omega) hf en_minimum _ fun W hF hR => ?_
    have hBx : BoxesAt W b4 (-9223372036854775808) 38 := hT.x4.keep fun k hk e => hF.block k hk (by show ¬ k = br; omega)
    refine (made_intOf _ u b d b4 _ _ W hBx).mono ?_
    rintro e w' ⟨v, z, rfl, hz, hv, hB⟩
    refine ⟨v, z, rfl, ?_⟩
    have hr : ruleS d (n + 1) 10 t = (n + 1, boundZ u (-9223372036854775808)) := by
      rw [rule_pos]
      simp only [Nat.reduceEqDiff, if_false, or_self]
      have hlo : leastOf 10 = (-9223372036854775808) := by decide
      rw [hlo]
      unfold boundZ
      have hx : t.int = u.x := vrep_int h.rep
      rw [hkd.1, hx]
    rw [hr]
    have hx : t.int = u.x := vrep_int h.rep
    exact ruleQ_plain hF hR (by omega) hB hz (by decide) (fun e => plain_bound (by decide) (by rw [hx]; exact hv e))
  | 11, _, hl, hf =>
    have he : e = (entriesS b0 b1 b2 b3 b4 b5 b6)[11] := by simpa [entriesS] using hl.symm
    subst he
    have hs : s = wMaximum := by simpa [entriesS] using hk.symm
    subst hs
    rw [no_11]
    refine rule_found br m n d 11 63 #[.pointer (some ⟨b5, 0, none⟩), .pointer (some ⟨b5 + 1, 0, none⟩)] _ u b _ _ w h.rd hn' hT.map (by omega) hf en_minimum _ fun W hF hR => ?_
    have hBx : BoxesAt W b5 (-9223372036854775808) 39 := hT.x5.keep fun k hk e => hF.block k hk (by show ¬ k = br; omega)
    refine (made_intOf _ u b d b5 _ _ W hBx).mono ?_
    rintro e w' ⟨v, z, rfl, hz, hv, hB⟩
    refine ⟨v, z, rfl, ?_⟩
    have hr : ruleS d (n + 1) 11 t = (n + 1, boundZ u (-9223372036854775808)) := by
      rw [rule_pos]
      simp only [Nat.reduceEqDiff, if_false, or_self]
      have hlo : leastOf 11 = (-9223372036854775808) := by decide
      rw [hlo]
      unfold boundZ
      have hx : t.int = u.x := vrep_int h.rep
      rw [hkd.1, hx]
    rw [hr]
    have hx : t.int = u.x := vrep_int h.rep
    exact ruleQ_plain hF hR (by omega) hB hz (by decide) (fun e => plain_bound (by decide) (by rw [hx]; exact hv e))
  | 12, _, hl, hf =>
    have he : e = (entriesS b0 b1 b2 b3 b4 b5 b6)[12] := by simpa [entriesS] using hl.symm
    subst he
    have hs : s = wDivisible := by simpa [entriesS] using hk.symm
    subst hs
    rw [no_12]
    refine rule_found br m n d 12 63 #[.pointer (some ⟨b6, 0, none⟩), .pointer (some ⟨b6 + 1, 0, none⟩)] _ u b _ _ w h.rd hn' hT.map (by omega) hf en_minimum _ fun W hF hR => ?_
    have hBx : BoxesAt W b6 1 42 := hT.x6.keep fun k hk e => hF.block k hk (by show ¬ k = br; omega)
    refine (made_intOf _ u b d b6 _ _ W hBx).mono ?_
    rintro e w' ⟨v, z, rfl, hz, hv, hB⟩
    refine ⟨v, z, rfl, ?_⟩
    have hr : ruleS d (n + 1) 12 t = (n + 1, boundZ u 1) := by
      rw [rule_pos]
      simp only [Nat.reduceEqDiff, if_false, or_self]
      have hlo : leastOf 12 = 1 := by decide
      rw [hlo]
      unfold boundZ
      have hx : t.int = u.x := vrep_int h.rep
      rw [hkd.1, hx]
    rw [hr]
    have hx : t.int = u.x := vrep_int h.rep
    exact ruleQ_plain hF hR (by omega) hB hz (by decide) (fun e => plain_bound (by decide) (by rw [hx]; exact hv e))
  | 13, _, hl, hf =>
    have he : e = (entriesS b0 b1 b2 b3 b4 b5 b6)[13] := by simpa [entriesS] using hl.symm
    subst he
    have hs : s = wAnyOf := by simpa [entriesS] using hk.symm
    subst hs
    rw [no_13]
    refine rule_found br m n d 13 43 #[] _ u b _ _ w h.rd hn' hT.map (by omega) hf en_anyOf _ fun W hF hR => ?_
    exact (made_any w0 (besideN bt) br m d (n + 1) t u b W (hg W hF hR) hOs).mono fun e w' hP => ruleQ_of hF hP
  | 14, _, hl, hf =>
    have he : e = (entriesS b0 b1 b2 b3 b4 b5 b6)[14] := by simpa [entriesS] using hl.symm
    subst he
    have hs : s = wAllOf := by simpa [entriesS] using hk.symm
    subst hs
    rw [no_14]
    refine rule_found br m n d 14 44 #[] _ u b _ _ w h.rd hn' hT.map (by omega) hf en_allOf _ fun W hF hR => ?_
    exact (made_all w0 (besideN bt) br m d (n + 1) t u b W (hg W hF hR) hOs).mono fun e w' hP => ruleQ_of hF hP
  | 15, _, hl, hf =>
    have he : e = (entriesS b0 b1 b2 b3 b4 b5 b6)[15] := by simpa [entriesS] using hl.symm
    subst he
    have hs : s = wNot := by simpa [entriesS] using hk.symm
    subst hs
    rw [no_15]
    refine rule_found br m n d 15 45 #[] _ u b _ _ w h.rd hn' hT.map (by omega) hf en_not _ fun W hF hR => ?_
    exact (made_not w0 (besideN bt) br m d (n + 1) t u b W (hg W hF hR) hO).mono fun e w' hP => ruleQ_of hF hP
end Go.Proofs.YtbcfkajcmbckbaaGreatDoor
/-! schema: a schema read. -/
namespace Go.Proofs.YtbcfkajcmbckbaaGreatDoor
open Go Go.RowKit

theorem AW : (Tryz.prog.info? 90).map (fun i => (i.zero, i.size, i.bytes)) = some (some (.agg #[.string { data := #[] }, .nilIface]), 2, 32) := by kernel_rfl
def ruleN (d n : Nat) (s : ByteArray) (t : Tr) : Nat × Int := if n = 128 then (128, 211) else ruleS d (n + 1) (wordNo s) t
theorem membersS_at {d n : Nat} {ns : List ByteArray} {its : List Tr} {q : Nat} {s : ByteArray} {t : Tr} (hn : ns[q]? = some s) (ht : its[q]? = some t) : membersS d n (ns.drop q) (its.drop q) = if (ruleN d n s t).2 = 0 then membersS d (ruleN d n s t).1 (ns.drop (q + 1)) (its.drop (q + 1)) else ruleN d n s t := by
  have hlt := (List.getElem?_eq_some_iff.1 ht).1
  have hlt' := (List.getElem?_eq_some_iff.1 hn).1
  have e1 : its.drop q = t :: its.drop (q + 1) := by rw [List.drop_eq_getElem_cons hlt, (List.getElem?_eq_some_iff.1 ht).2]
  have e2 : ns.drop q = s :: ns.drop (q + 1) := by rw [List.drop_eq_getElem_cons hlt', (List.getElem?_eq_some_iff.1 hn).2]
  rw [e1, e2, membersS]
  unfold ruleN
  by_cases h : n = 128
  · subst h; simp
  · rw [if_neg h, if_neg h]; rfl
/-- A schema that is being read. -/
structure RuleSt (w0 : World) (bn : List ByteArray) (w : World) (br m : Nat) (ns : List ByteArray) (its : List Tr) (q n : Nat) (a : Option Addr) (c : Nat) (wr : World) : Prop where
  fr : Fr (fun b => b = br) w wr
  rd : ReaderAt wr br m n
  le : n ≤ 128
  row : ∃ xs, Rw wr w.heap.size 2 a q c xs ∧ ∃ S : Nat → Prop, (∀ k, S k → w.heap.size ≤ k ∧ k < wr.heap.size ∧ ¬ blkOf a k) ∧ RulesX w0 bn wr S xs (ns.take q) (its.take q)
theorem RuleSt.next {w0 : World} {bn : List ByteArray} {w wr w1 w2 : World} {br m q n n1 : Nat} {ns : List ByteArray} {its : List Tr} {s : ByteArray} {t : Tr} {v : Value} {a : Option Addr} {c g o c2 : Nat} {xs : List Value} {o1 : Obj} (h : RuleSt w0 bn w br m ns its q n a c wr) (hbr : br < w.heap.size) (hRw : Rw (w1.alloc o1) w.heap.size 2 a q c xs) (hx : ∃ S : Nat → Prop, (∀ k, S k → w.heap.size ≤ k ∧ k < wr.heap.size ∧ ¬ blkOf a k) ∧ RulesX w0 bn wr S xs (ns.take q) (its.take q)) (hl : ns.length = its.length) (hn : ns[q]? = some s) (ht : its[q]? = some t)
    (hF1 : Fr (fun b => b = br) wr w1) (hr1 : ReaderAt w1 br m n1) (hn1 : n1 ≤ 128) (hab : ∀ k, blkOf a k → 0 < c → k < wr.heap.size) (hR : RuleR w0 bn w1 (fun k => wr.heap.size ≤ k ∧ k < w1.heap.size) (wordNo s) t v)
    (hA : Appd (w1.alloc o1) w.heap.size 2 a q 1 c (xs ++ [.string s, v]) g o c2 w2) : RuleSt w0 bn w br m ns its (q + 1) n1 (some ⟨g, o, none⟩) c2 w2 := by
  have hs := h.fr.size
  have hs1 := hF1.size
  have hsA : (w1.alloc o1).heap.size = w1.heap.size + 1 := World.size_alloc _ _
  obtain ⟨hg1, hg2⟩ := appd_ge hRw (by decide) (by omega) hA
  have hbk : w2.heap[br]? = (w1.alloc o1).heap[br]? := appd_kept hA (by omega) (by omega)
  obtain ⟨S, hS1, hS2⟩ := hx
  have hlt := (List.getElem?_eq_some_iff.1 ht).1
  refine ⟨?_, ?_, hn1, _, hA.row, fun k => w.heap.size ≤ k ∧ k < w1.heap.size ∧ k ≠ g, ?_, ?_⟩
  · refine (h.fr.trans (hF1.alloc o1)).next hA.fr fun i hi => ?_
    obtain ⟨⟨o', s', e⟩, h2⟩ := hi
    rcases hRw.pt with h0 | ⟨b, o2, e2, h3, -⟩
    · omega
    · rw [e] at e2; cases e2; exact .inr h3
  · exact (hbk.trans (Below.heap_alloc _ _ _ (by omega))).trans hr1
  · rintro k ⟨k1, k2, k3⟩
    have := appd_size hA
    refine ⟨k1, by omega, fun e => ?_⟩
    obtain ⟨o', s', e⟩ := e
    cases e
    exact k3 rfl
  · have hk2 : ∀ k, k < w1.heap.size → k ≠ g → w2.heap[k]? = w1.heap[k]? := fun k hk hne => (appd_kept hA (by omega) hne).trans (Below.heap_alloc _ _ _ hk)
    have e3 : its.take (q + 1) = its.take q ++ [t] := by rw [List.take_add_one, ht]; rfl
    have e4 : ns.take (q + 1) = ns.take q ++ [s] := by rw [List.take_add_one, hn]; rfl
    rw [e3, e4]
    refine RulesX.snoc ?_ (by rw [List.length_take, List.length_take, hl]) ?_
    · refine RuleR.keep (fun k hk _ => hk2 k hk.2 ?_) (fun k hk => ⟨by omega, hk.2, ?_⟩) _ _ _ hR
      all_goals
        intro e
        subst e
        rcases appd_g hA with hb | hb
        · rcases hA.at' with ⟨-, -, h4⟩ | ⟨h4, -, -⟩
          · have := hab _ hb (by omega); omega
          · omega
        · omega
    · refine hS2.keep (fun k hk hlt => ?_) (fun k hk => ?_)
      · obtain ⟨k1, k2, k3⟩ := hS1 k hk
        have hne : k ≠ g := by
          intro e; subst e
          rcases appd_g hA with hb | hb
          · exact k3 hb
          · omega
        exact (hk2 k (by omega) hne).trans (hF1.block k k2 (by show ¬ k = br; omega))
      · obtain ⟨k1, k2, k3⟩ := hS1 k hk
        refine ⟨k1, by omega, fun e => ?_⟩
        subst e
        rcases appd_g hA with hb | hb
        · exact k3 hb
        · omega
theorem RuleSt.fin {w0 : World} {bn : List ByteArray} {w wr : World} {br m q n : Nat} {ns : List ByteArray} {its : List Tr} {a : Option Addr} {c : Nat} (h : RuleSt w0 bn w br m ns its q n a c wr) (hl : ns.length = its.length) (hq : q = its.length) : RowR w0 bn wr (fun k => w.heap.size ≤ k ∧ k < wr.heap.size) a ns its := by
  obtain ⟨xs, hR, S, hS, hX⟩ := h.row
  have e1 : ns.take q = ns := by rw [hq, ← hl, List.take_length]
  rw [e1, hq, List.take_length] at hX
  cases its with
  | nil => exact .inl rfl
  | cons t ts =>
    right
    rcases hR.pt with h0 | ⟨b, o, e, h1, h2, h3, h4⟩
    · have := hR.le; simp at hq; omega
    · refine ⟨b, o, e, ⟨h1, h2⟩, RulesX.row (hX.keep (fun _ _ _ => rfl) (fun k hk => ⟨(hS k hk).1, (hS k hk).2.1⟩)) fun j u hj => ?_⟩
      obtain ⟨b', o', e', -, h5⟩ := hR.cell hj
      rw [e] at e'; cases e'
      exact h5
set_option maxHeartbeats 8000000 in
set_option maxRecDepth 100000 in
theorem schema_any (w0 : World) (t : Tr) (hO : Hid (∀ t' ∈ t.items, SchemaOk w0 t' ∧ ∀ t'' ∈ t'.items, SchemaOk w0 t'')) (d n br m : Nat) (u : V5) (w : World) (hd : d ≤ 9) (hn : n ≤ 128) (hV : VRep w0 t u.cs) (hS : Hid (SmallT t)) (hN : Hid (NamesT t)) (hE : Hid (EnvS w0 w br m)) (hR : Hid (ReaderAt w br m n)) :
    Calls Tryz.prog 21 #[.pointer (some ⟨br, 0, none⟩), u.v, .int .i64 (d : Int)] w (SchemaPost w0 w br m d n t) := by
  obtain ⟨ri, hri, hri1, hri2, hri3⟩ := info_parts AW
  have hbr := hid_of hR.out.lt
  have hF0 := hid_of ((Fr.refl (fun b => b = br) w).alloc (u.obj 25))
  have hn0 := heap_alloc_new w (u.obj 25)
  have hE0 := hid_of (hE.out.fr hF0.out)
  have hR0 := hid_of (hR.out.keep ((Below.refl _ _).alloc (Nat.le_refl _) (u.obj 25)))
  obtain ⟨hrow, hli⟩ := rep_row hV
  obtain ⟨hnam, hnl⟩ := rep_names hV
  have hkd := hid_of (vrep_head hV).1
  have hsm := hid_of (small_parts hS.out)
  have hnp := hid_of (names_parts hN.out)
  obtain ⟨N, hNN⟩ : ∃ N, Hid (schemaS d n t = N) := ⟨_, rfl⟩
  replace hrow := hid_of hrow; replace hnam := hid_of hnam; replace hli := hid_of hli; replace hnl := hid_of hnl; replace hV := hid_of hV
  unfold V5.obj at *
  unfold V5.v
  go_enter Tryz.func21, Tryz.ntmps21
  by_cases hk : u.k = 6
  · have hb6 : (u.k != 6) = false := by simp [hk]
    have hk6 : Hid (t.kind = 6) := by rw [Hid, hkd.out]; exact hk
    clear hk hkd
    by_cases hd8 : 8 < d
    · have hb8 : decide ((d : Int) > 8) = true := by simp; omega
      have hfin : Hid (N = (n, 211)) := by rw [Hid, ← hNN.out]; unfold schemaS; rw [if_pos hk6.out, if_pos hd8]
      clear hd8
      go_wp2_with fail
      go_ret2
      refine ⟨hF0.out, ?_, ?_, none, 0, 0, ?_, ?_⟩
      all_goals rw [hNN.out, hfin.out]
      · exact hR0.out
      · exact hn
      · rfl
      · exact fun e => by cases e
    · have hb8 : decide ((d : Int) > 8) = false := by simp; omega
      have hd8' : Hid (d ≤ 8) := by show d ≤ 8; omega
      have hM0 : Hid (membersS d n (t.names.drop 0) (t.items.drop 0) = N) := by
        rw [Hid, ← hNN.out]; unfold schemaS; rw [if_pos hk6.out, if_neg hd8]; rfl
      obtain ⟨x0, x1, x2, x3, x4, -⟩ := row_cells hn0
      have hlN : Hid (t.names.length = t.items.length) := hnp.out.1 hk6.out
      clear hd8
      go_wp2_with fail
      have hX0s : Hid ((w.alloc (.cells #[.int .i64 u.k, .int .i64 u.x, .string u.s, .slice u.an u.ln u.cn, .slice u.ai u.li u.ci] 25)).heap.size = w.heap.size + 1) := World.size_alloc _ _
      generalize w.alloc (.cells #[.int .i64 u.k, .int .i64 u.x, .string u.s, .slice u.an u.ln u.cn, .slice u.ai u.li u.ci] 25) = X0 at *
      replace x0 := hid_of x0; replace x1 := hid_of x1; replace x2 := hid_of x2; replace x3 := hid_of x3; replace x4 := hid_of x4
      clear hn0
      go_loopw [8, 21] (fun l i wr => ∃ (q n' : Nat) (a : Option Addr) (c : Nat), q ≤ t.items.length ∧ i = .int .i64 q ∧ l = .slice a q c ∧ Hid (RuleSt w0 (besideN t) X0 br m t.names t.items q n' a c wr) ∧ Hid (membersS d n' (t.names.drop q) (t.items.drop q) = N)) (fun _ i _ => t.items.length - (intOf i).toNat)
      case atStart => exact ⟨0, n, none, 0, Nat.zero_le _, rfl, rfl, ⟨Fr.refl _ _, hR0.out, hn, [], Rw.nil _ _ _ _, fun _ => False, fun _ h => h.elim, rfl⟩, hM0⟩
      case round =>
        obtain ⟨q, n', a, c, hq, rfl, rfl, hL, hM⟩ := hrel
        by_cases hlt : q < t.items.length
        · obtain ⟨t', ht⟩ : ∃ t', Hid (t.items[q]? = some t') := ⟨_, hid_e (List.getElem?_eq_getElem hlt)⟩
          obtain ⟨s, hs⟩ : ∃ s, Hid (t.names[q]? = some s) := ⟨_, hid_e (List.getElem?_eq_getElem (by rw [hlN.out]; exact hlt))⟩
          have hEr := hid_of (hE0.out.fr hL.out.fr)
          obtain ⟨g, o, hai, hg, hVL⟩ := hrow.out.resolve_left (by intro e; rw [e] at hlt; simp at hlt)
          obtain ⟨cs, hCs, hr⟩ := VRepL.at t.items o q t' hVL ht.out
          obtain ⟨v, rfl⟩ := vrep_v5 hr
          obtain ⟨an', cn', e2, hc, h0⟩ := hnam.out
          simp only [Value.slice.injEq] at e2
          obtain ⟨e3, -, e4⟩ := e2
          obtain ⟨gn, on, e5, hgn, hA⟩ := h0.resolve_left (by intro e; have := hlN.out; rw [e] at this; simp at this; omega)
          rw [← e3] at e5
          have nm0 : wr.cell? ⟨gn, on + q, none⟩ = some (.string s) := (hEr.out.old.cell (p := ⟨gn, on + q, none⟩) hgn).trans (hA q s hs.out)
          have hbb : ¬ w.heap.size = br := by have := hbr.out; omega
          have b0 : wr.drew.cell? ⟨w.heap.size, 0, none⟩ = some (.int .i64 u.k) := hL.out.fr.cell x0.out hbb
          have b1 : wr.drew.cell? ⟨w.heap.size, 1, none⟩ = some (.int .i64 u.x) := hL.out.fr.cell x1.out hbb
          have b2 : wr.drew.cell? ⟨w.heap.size, 2, none⟩ = some (.string u.s) := hL.out.fr.cell x2.out hbb
          have b3 : wr.drew.cell? ⟨w.heap.size, 3, none⟩ = some (.slice u.an u.ln u.cn) := hL.out.fr.cell x3.out hbb
          have b4 : wr.drew.cell? ⟨w.heap.size, 4, none⟩ = some (.slice u.ai u.li u.ci) := hL.out.fr.cell x4.out hbb
          unfold V5.cs five at hCs
          have z0 : wr.drew.cell? ⟨g, o + q * 5 + 0, none⟩ = some (.int .i64 v.k) := (hEr.out.old.cell (p := ⟨g, o + q * 5 + 0, none⟩) hg).trans (hCs 0 _ rfl)
          have z1 : wr.drew.cell? ⟨g, o + q * 5 + 1, none⟩ = some (.int .i64 v.x) := (hEr.out.old.cell (p := ⟨g, o + q * 5 + 1, none⟩) hg).trans (hCs 1 _ rfl)
          have z2 : wr.drew.cell? ⟨g, o + q * 5 + 2, none⟩ = some (.string v.s) := (hEr.out.old.cell (p := ⟨g, o + q * 5 + 2, none⟩) hg).trans (hCs 2 _ rfl)
          have z3 : wr.drew.cell? ⟨g, o + q * 5 + 3, none⟩ = some (.slice v.an v.ln v.cn) := (hEr.out.old.cell (p := ⟨g, o + q * 5 + 3, none⟩) hg).trans (hCs 3 _ rfl)
          have z4 : wr.drew.cell? ⟨g, o + q * 5 + 4, none⟩ = some (.slice v.ai v.li v.ci) := (hEr.out.old.cell (p := ⟨g, o + q * 5 + 4, none⟩) hg).trans (hCs 4 _ rfl)
          simp only [Nat.add_zero] at z0
          have hgb : Hid (¬ g = br) := by have := hEr.out.base; show ¬ g = br; omega
          have hi : (q : Int) < (u.ln : Int) := by have h1 := hnl.out; have h2 := hlN.out; omega
          have hqb : (q : Int) ≤ 1759218604390 := by have := hsm.out.1; omega
          have hi2 : (q : Int) < (u.li : Int) := by have h1 := hli.out; omega
          have hq1 : Hid ((q + 1) ≤ maxLen ∧ (q + 1) * 32 ≤ 140737488355328) := by have := hsm.out.1; refine ⟨?_, ?_⟩; unfold maxLen; omega; omega
          have hot := hO.out t' (List.mem_of_getElem? ht.out)
          have hrule := hid_of (rule_any w0 br m d n' s t' t v u wr.drew ⟨hd8'.out, hL.out.le, hr, SmallL.at hsm.out.2.2.2.1 ht.out, NamesL.at hnp.out.2 ht.out, hEr.out.fr ((Fr.refl _ _).drew), hL.out.rd⟩ hV.out hS.out hot.1 hot.2)
          have hst := hid_of (membersS_at (d := d) (n := n') hs.out ht.out)
          obtain ⟨R, hRR⟩ : ∃ R, Hid (ruleN d n' s t' = R) := ⟨_, rfl⟩
          have hrule2 : Hid (Calls Tryz.prog 46 #[.pointer (some ⟨br, 0, none⟩), .string s, .agg #[.int .i64 v.k, .int .i64 v.x, .string v.s, .slice v.an v.ln v.cn, .slice v.ai v.li v.ci, .int .i64 u.k, .int .i64 u.x, .string u.s, .slice u.an u.ln u.cn, .slice u.ai u.li u.ci, .int .i64 (d : Int)]] wr.drew fun e w' => ∃ v z, e = .returned (.tuple #[v, .int .i64 z]) ∧ RuleQ w0 (besideN t) wr.drew br m R (wordNo s) t' v z w') := by
            rw [← hRR.out]; exact hrule.out
          rw [hRR.out] at hst
          have e5' := hid_of e5
          have hai' := hid_of hai
          rw [hai] at b4
          rw [e5] at b3
          rw [e5, hai] at hrule2
          clear hVL hCs hr h0 hA hc hrule hot hgn hg e3 e4
          replace hbb := hid_of hbb
          rw [e5, hai]
          go_upto_region 9 with fail
          go_region_held3 (fun W => W.cell? ⟨w.heap.size, 0, none⟩ = some (.int .i64 u.k) ∧ W.cell? ⟨w.heap.size, 1, none⟩ = some (.int .i64 u.x) ∧ W.cell? ⟨w.heap.size, 2, none⟩ = some (.string u.s) ∧ W.cell? ⟨w.heap.size, 3, none⟩ = some (.slice (some ⟨gn, on, none⟩) u.ln u.cn) ∧ W.cell? ⟨w.heap.size, 4, none⟩ = some (.slice (some ⟨g, o, none⟩) u.li u.ci) ∧ W.cell? ⟨g, o + q * 5, none⟩ = some (.int .i64 v.k) ∧ W.cell? ⟨g, o + q * 5 + 1, none⟩ = some (.int .i64 v.x) ∧ W.cell? ⟨g, o + q * 5 + 2, none⟩ = some (.string v.s) ∧ W.cell? ⟨g, o + q * 5 + 3, none⟩ = some (.slice v.an v.ln v.cn) ∧ W.cell? ⟨g, o + q * 5 + 4, none⟩ = some (.slice v.ai v.li v.ci)) (go_keep) (first
            | (go_at_call 46; refine hrule2.out.mono ?_; rintro e W1 ⟨r1, z, rfl, hF1, hr1, hn1, hz1, hR1⟩; have b0' : W1.cell? ⟨w.heap.size, 0, none⟩ = some (.int .i64 u.k) := hF1.cell b0 hbb.out; have b1' : W1.cell? ⟨w.heap.size, 1, none⟩ = some (.int .i64 u.x) := hF1.cell b1 hbb.out; have b2' : W1.cell? ⟨w.heap.size, 2, none⟩ = some (.string u.s) := hF1.cell b2 hbb.out; have b3' : W1.cell? ⟨w.heap.size, 3, none⟩ = some (.slice (some ⟨gn, on, none⟩) u.ln u.cn) := hF1.cell b3 hbb.out; have b4' : W1.cell? ⟨w.heap.size, 4, none⟩ = some (.slice (some ⟨g, o, none⟩) u.li u.ci) := hF1.cell b4 hbb.out; have z0' : W1.cell? ⟨g, o + q * 5, none⟩ = some (.int .i64 v.k) := hF1.cell z0 hgb.out; have z1' : W1.cell? ⟨g, o + q * 5 + 1, none⟩ = some (.int .i64 v.x) := hF1.cell z1 hgb.out; have z2' : W1.cell? ⟨g, o + q * 5 + 2, none⟩ = some (.string v.s) := hF1.cell z2 hgb.out; have z3' : W1.cell? ⟨g, o + q * 5 + 3, none⟩ = some (.slice v.an v.ln v.cn) := hF1.cell z3 hgb.out; have z4' : W1.cell? ⟨g, o + q * 5 + 4, none⟩ = some (.slice v.ai v.li v.ci) := hF1.cell z4 hgb.out; replace hF1 := hid_of hF1; replace hr1 := hid_of hr1; replace hn1 := hid_of hn1; replace hz1 := hid_of hz1; replace hR1 := hid_of hR1; clear b0 b1 b2 b3 b4 z0 z1 z2 z3 z4))
          have hfr : Fr (fun b => b = br) wr W1 := ((Fr.refl _ _).drew).trans hF1.out
          clear b0' b1' b2' b3' b4' z0' z1' z2' z3' z4' hrule2
          rw [hz1.out]
          obtain ⟨n1, e1⟩ := R
          simp only at hst hr1 hn1 hR1 ⊢
          by_cases hz0 : e1 = 0
          · subst hz0
            have hM2 : Hid (membersS d n1 (t.names.drop (q + 1)) (t.items.drop (q + 1)) = N) := by rw [Hid, ← hM.out, hst.out, if_pos rfl]
            obtain ⟨xs, hRw, hX⟩ := hL.out.row
            have hRR1 := hR1.out rfl
            obtain ⟨ty, y, rfl⟩ := RuleR.some hRR1
            have hbr0 : Hid (br < X0.heap.size) := by have := hbr.out; have := hX0s.out; show _ < _; omega
            have hab : ∀ k, blkOf a k → 0 < c → X0.heap.size ≤ k ∧ k < wr.heap.size := by
              rintro k ⟨o', s', e⟩ hc
              rcases hRw.pt with h0 | ⟨b, o2, e2, h3, h4, -⟩
              · omega
              · rw [e] at e2; cases e2; exact ⟨h3, h4⟩
            have hRw1 : Rw (W1.alloc (.cells #[.string s, .iface ty y] 90)) X0.heap.size 2 a q c xs := by
              rcases Nat.eq_zero_or_pos c with hc | hc
              · refine ⟨hRw.len, hRw.le, hRw.mx, .inl hc⟩
              · refine hRw.keep (by have := hfr.size; rw [World.size_alloc]; omega) fun b hb hlt => ?_
                obtain ⟨hb1, hb2⟩ := hab b hb hc
                exact (Below.heap_alloc _ _ _ (by have := hfr.size; omega)).trans (hfr.block b hb2 (by have := hbr0.out; show ¬ b = br; omega))
            have hsrc := hid_of (Src.of_block (P := Tryz.prog) (size := 2) Tryz.underlying58 (heap_alloc_new W1 (.cells #[.string s, .iface ty y] 90)) 1 1 rfl (by intro u hu; simp at hu; rcases hu with rfl | rfl <;> rfl))
            have hnext := fun g o c2 w2 hA => hid_of (RuleSt.next (g := g) (o := o) (c2 := c2) (w2 := w2) (o1 := .cells #[.string s, .iface ty y] 90) hL.out hbr0.out hRw1 hX hlN.out hs.out ht.out hfr hr1.out hn1.out (fun k hk hc => (hab k hk hc).2) hRR1 hA)
            have hbase : Hid (X0.heap.size ≤ (W1.alloc (.cells #[.string s, .iface ty y] 90)).heap.size) := by
              have h1 := hL.out.fr.size; have h2 := hfr.size; show _ ≤ _; rw [World.size_alloc]; omega
            replace hRw1 := hid_of hRw1
            clear hst hX hR1 hRR1 hr1 hn1 hRw hab hfr hF1 hRR
            go_wp2_with (at_builtin; refine wpList_append_rw _ rfl _ _ 58 rfl 90 ri _ 2 32 Tryz.underlying58 hri hri1 hri2 hri3 rfl X0.heap.size a q c xs rfl hRw1.out.len hRw1.out.le hRw1.out.mx hRw1.out.rd _ rfl 1 _ hsrc.out (fun _ => hRw1.out) (by decide) hq1.out.1 hq1.out.2 hbase.out ?_; intro g2 o2 c2 W3 hA; replace hnext := hnext g2 o2 c2 W3 hA)
            go_roundw
            case rel => exact ⟨q + 1, n1, some ⟨g2, o2, none⟩, c2, by omega, by go_num, rfl, hnext, hM2⟩
            case measure => simp [intOf]; omega
          · have hb0 : (e1 != 0) = true := by simpa using hz0
            have hfin : Hid (N = (n1, e1)) := by rw [Hid, ← hM.out, hst.out, if_neg hz0]
            clear hst
            go_wp2_with fail
            go_ret2
            refine ⟨(hF0.out.trans hL.out.fr).trans hfr, ?_, ?_, none, 0, 0, ?_, ?_⟩
            all_goals rw [hNN.out, hfin.out]
            · exact hr1.out
            · exact hn1.out
            · rfl
            · exact fun e => absurd e hz0
        · have e : t.items.drop q = [] := List.drop_eq_nil_of_le (by omega)
          have hi : ¬ (q : Int) < (u.ln : Int) := by have h1 := hnl.out; have h2 := hlN.out; omega
          have hfin : Hid (N = (n', 0)) := by rw [Hid, ← hM.out, e, membersS]
          have hqe : Hid (q = t.items.length) := by show q = _; omega
          clear hlt e
          go_wp2_with fail
          go_ret2
          refine ⟨hF0.out.trans hL.out.fr, ?_, ?_, a, q, c, ?_, ?_⟩
          all_goals rw [hNN.out, hfin.out]
          · exact hL.out.rd
          · exact hL.out.le
          · rfl
          · exact fun _ => ⟨hqe.out, (hL.out.fin hlN.out hqe.out).keep (fun _ _ _ => rfl) (fun k hk => ⟨by have := hX0s.out; omega, hk.2⟩)⟩
  · have hb6 : (u.k != 6) = true := by simp [hk]
    have hfin : Hid (N = (n, 210)) := by rw [Hid, ← hNN.out]; unfold schemaS; rw [if_neg (by rw [hkd.out]; exact hk)]
    clear hk
    go_wp2_with fail
    go_ret2
    refine ⟨hF0.out, ?_, ?_, none, 0, 0, ?_, ?_⟩
    all_goals rw [hNN.out, hfin.out]
    · exact hR0.out
    · exact hn
    · rfl
    · exact fun e => by cases e
end Go.Proofs.YtbcfkajcmbckbaaGreatDoor
/-! schema: Parse of every Value. -/
namespace Go.Proofs.YtbcfkajcmbckbaaGreatDoor
open Go Go.RowKit

theorem schemaOk (w0 : World) (t : Tr) : SchemaOk w0 t := by
  intro d n br m u w hd hn hV hS hN hE hR
  refine schema_any w0 t (hid_of fun t' ht' => ⟨?_, fun t'' ht'' => ?_⟩) d n br m u w hd hn hV (hid_of hS) (hid_of hN) (hid_of hE) (hid_of hR)
  · have h1 : SizeOf.sizeOf t' < SizeOf.sizeOf t.items := List.sizeOf_lt_of_mem ht'
    have h2 : SizeOf.sizeOf t.items < SizeOf.sizeOf t := by obtain ⟨k, x, s, ns, its⟩ := t; simp only [Tr.items, Tr.node.sizeOf_spec]; omega
    exact schemaOk w0 t'
  · have h1 : SizeOf.sizeOf t' < SizeOf.sizeOf t.items := List.sizeOf_lt_of_mem ht'
    have h2 : SizeOf.sizeOf t.items < SizeOf.sizeOf t := by obtain ⟨k, x, s, ns, its⟩ := t; simp only [Tr.items, Tr.node.sizeOf_spec]; omega
    have h3 : SizeOf.sizeOf t'' < SizeOf.sizeOf t'.items := List.sizeOf_lt_of_mem ht''
    have h4 : SizeOf.sizeOf t'.items < SizeOf.sizeOf t' := by obtain ⟨k, x, s, ns, its⟩ := t'; simp only [Tr.items, Tr.node.sizeOf_spec]; omega
    exact schemaOk w0 t''
termination_by SizeOf.sizeOf t
decreasing_by all_goals omega
mutual
theorem names_of : (d : Nat) → (t : Tr) → checkT d t = 0 → NamesT t
  | d, .node k x s ns its, h => by
    rw [checkT] at h
    unfold NamesT
    by_cases ha : aloneT d k x s ns.length its.length = 0
    · rw [if_pos ha] at h
      have h6 := (aloneT_ok ha).2.2.2.2.2
      by_cases hk : k = 6
      · rw [if_pos hk] at h
        exact ⟨h6, members_of (d + 1) [] ns its (h6 hk) h⟩
      · rw [if_neg hk] at h
        exact ⟨h6, items_of (d + 1) its h⟩
    · rw [if_neg ha] at h
      exact absurd h ha
theorem items_of : (d : Nat) → (its : List Tr) → itemsT d its = 0 → NamesL its
  | _, [], _ => by unfold NamesL; trivial
  | d, t :: ts, h => by
    rw [itemsT] at h
    unfold NamesL
    by_cases hc : checkT d t = 0
    · rw [if_pos hc] at h
      exact ⟨names_of d t hc, items_of d ts h⟩
    · rw [if_neg hc] at h
      exact absurd h hc
theorem members_of : (d : Nat) → (had ns : List ByteArray) → (its : List Tr) → ns.length = its.length → membersT d had ns its = 0 → NamesL its
  | _, _, _, [], _, _ => by unfold NamesL; trivial
  | _, _, [], _ :: _, hl, _ => by simp at hl
  | d, had, n :: ns, t :: ts, hl, h => by
    rw [membersT] at h
    unfold NamesL
    split at h
    · simp at h
    split at h
    · simp at h
    split at h
    · rename_i hc
      exact ⟨names_of d t hc, members_of d (had ++ [n]) ns ts (by simpa using hl) h⟩
    · rename_i hc
      exact absurd h hc
end
theorem check_any (t : Tr) (u : V5) (w : World) (hV : VRep w t u.cs) (hS : SmallT t) (hU : Lib.Utf8Tabs 1 2 w) (h8 : 3 ≤ w.heap.size) :
    Calls Tryz.prog 19 #[u.v] w fun e w' => e = .returned (.int .i64 (checkT 0 t)) ∧ Below w.heap.size w w' := by
  have hB : ∀ o, Below w.heap.size w (w.alloc o) := fun o => (Below.refl _ _).alloc (Nat.le_refl _) _
  have hcall := fun o => hid_e (check_deep t 0 _ (w.alloc o) (by omega) (VRep.keep (hB o) _ _ hV) hS (utf_below hU (hB o) h8) (by rw [World.size_alloc]; omega))
  obtain ⟨c, hc⟩ : ∃ c, Hid (checkT 0 t = c) := ⟨_, hid_e rfl⟩
  rw [hc.out] at hcall ⊢
  unfold V5.cs five at hcall
  unfold V5.v
  go_enter Tryz.func19, Tryz.ntmps19
  go_wp2_with fail
  go_fit (hcall _).out
  rintro e w1 ⟨rfl, hb1⟩
  go_wp2_with fail
  go_ret
  exact ⟨rfl, below_box hb1⟩

/-- What Parse tells of a tree. -/
def parseZ (t : Tr) : Int := if checkT 0 t = 0 then (schemaS 0 0 t).2 else checkT 0 t
/-- A schema that was read. -/
def SchemaAt (w w' : World) (t : Tr) (p : Value) : Prop := ∃ b a c, p = .pointer (some ⟨b, 0, none⟩) ∧ w.heap.size ≤ b ∧ w'.heap[b]? = some (.cells #[.slice a t.items.length c, .int .i64 ((schemaS 0 0 t).1 : Int)] 62 (0, 0)) ∧ RowR w (besideN t) w' (fun k => w.heap.size ≤ k ∧ k < w'.heap.size) a t.names t.items
structure ParsePost (w : World) (t : Tr) (e : Ending) (w' : World) : Prop where
  below : Below w.heap.size w w'
  ret : ∃ p, e = .returned (.tuple #[p, .int .i64 (parseZ t)]) ∧ (parseZ t ≠ 0 → p = .pointer none) ∧ (parseZ t = 0 → SchemaAt w w' t p)
set_option maxHeartbeats 4000000 in
set_option maxRecDepth 100000 in
theorem parse_any (t : Tr) (u : V5) (w : World) (hV : Hid (VRep w t u.cs)) (hS : Hid (SmallT t)) (hU : Hid (Lib.Utf8Tabs 1 2 w)) (hT : Hid (TysAt w)) (h8 : 3 ≤ w.heap.size) :
    Calls Tryz.prog 12 #[u.v] w (ParsePost w t) := by
  have hB0 := hid_of ((Below.refl _ w).alloc (Nat.le_refl _) (u.obj 25))
  obtain ⟨x0, x1, x2, x3, x4, -⟩ := row_cells (heap_alloc_new w (u.obj 25))
  have hck := hid_of (check_any t u (w.alloc (u.obj 25)) (VRep.keep hB0.out _ _ hV.out) hS.out (utf_below hU.out hB0.out h8) (by rw [World.size_alloc]; omega))
  have hT0 : Hid (0 < w.heap.size) := lt_of_cell (hT.out 0 (by decide))
  obtain ⟨c, hc⟩ : ∃ c, Hid (checkT 0 t = c) := ⟨_, rfl⟩
  rw [hc.out] at hck
  unfold V5.obj at *
  unfold V5.v at *
  go_enter Tryz.func12, Tryz.ntmps12
  go_wp2_with fail
  generalize w.alloc (.cells #[.int .i64 u.k, .int .i64 u.x, .string u.s, .slice u.an u.ln u.cn, .slice u.ai u.li u.ci] 25) = X0 at *
  refine hck.out.mono ?_
  rintro e W1 ⟨rfl, hb1⟩
  have y0 := stay hb1 x0; have y1 := stay hb1 x1; have y2 := stay hb1 x2; have y3 := stay hb1 x3; have y4 := stay hb1 x4
  have hB1 := hid_of (hB0.out.trans (hb1.mono hB0.out.size))
  clear x0 x1 x2 x3 x4 hck hb1
  by_cases h0 : c = 0
  · subst h0
    have hNm := hid_of (names_of 0 t hc.out)
    have hpz : Hid (parseZ t = (schemaS 0 0 t).2) := by rw [Hid]; unfold parseZ; rw [if_pos hc.out]
    go_wp2_with fail
    refine (makers_any _).mono ?_
    rintro e W2 ⟨hb2, m, b0, b1, b2, b3, b4, b5, b6, rfl, hm, g0, g1, g2, g3, g4, g5, g6, hTab⟩
    have hB2 := hid_of (hB1.out.trans (hb2.mono hB1.out.size))
    have hO3 := hid_of ((Below.refl W2.heap.size W2).alloc (Nat.le_refl _) (.cells #[.map (some m), .int .i64 0] 56))
    have q0 := stay hO3.out (stay hb2 y0); have q1 := stay hO3.out (stay hb2 y1); have q2 := stay hO3.out (stay hb2 y2); have q3 := stay hO3.out (stay hb2 y3); have q4 := stay hO3.out (stay hb2 y4)
    have hE3 : Hid (EnvS w (W2.alloc (.cells #[.map (some m), .int .i64 0] 56)) W2.heap.size m) := by
      have e0 := lt_of_cell hTab.x0.two; have e1 := lt_of_cell hTab.x1.two; have e2 := lt_of_cell hTab.x2.two; have e3 := lt_of_cell hTab.x3.two; have e4 := lt_of_cell hTab.x4.two; have e5 := lt_of_cell hTab.x5.two; have e6 := lt_of_cell hTab.x6.two
      have hB3 := hB2.out.trans (hO3.out.mono hB2.out.size)
      exact ⟨⟨⟨b0, b1, b2, b3, b4, b5, b6, hTab.keep (fun k hk => hO3.out.block k hk), e0, e1, e2, e3, e4, e5, e6⟩, (Array.getElem?_eq_some_iff.1 hTab.map).1⟩, hT.out.keep (hB3.block _ hT0.out), Nat.lt_of_lt_of_le hT0.out hB2.out.size, hB2.out.size, hB3⟩
    have hR3 : Hid (ReaderAt (W2.alloc (.cells #[.map (some m), .int .i64 0] 56)) W2.heap.size m 0) := heap_alloc_new W2 _
    have hcall := hid_of (schemaOk w t 0 0 W2.heap.size m u _ (by decide) (by decide) hV.out hS.out hNm.out hE3.out hR3.out)
    unfold V5.v at hcall
    have hszw := hid_of hB2.out.size
    have hszX := hid_of (show w.heap.size < W2.heap.size from Nat.lt_of_lt_of_le (Nat.lt_of_lt_of_le (lt_of_cell y0) hb2.size) (Nat.le_refl _))
    clear hb2 y0 y1 y2 y3 y4 g0 g1 g2 g3 g4 g5 g6 hm hTab
    go_wp2_with fail
    obtain ⟨br, hbr⟩ : ∃ br, Hid (W2.heap.size = br) := ⟨_, rfl⟩
    rw [hbr.out] at hcall hE3 hR3 hszw hszX ⊢
    generalize W2.alloc (.cells #[.map (some m), .int .i64 0] 56) = W3 at *
    refine hcall.out.mono ?_
    rintro e W4 hP
    obtain ⟨a1, l1, c1, rfl, hret⟩ := hP.ret
    have hB4 := hid_of (hE3.out.old.trans (hP.fr.below hE3.out.old.size (fun i e => by subst e; exact hszw.out)))
    have hrd := hP.rd.cells.2.1
    have hsz3 := hid_of hE3.out.old.size
    have hsz4 := hid_of hP.fr.size
    replace hret := hid_of hret
    rw [← hpz.out] at hret ⊢
    obtain ⟨z, hz⟩ : ∃ z, Hid (parseZ t = z) := ⟨_, rfl⟩
    rw [hz.out] at hret ⊢
    clear hP hcall q0 q1 q2 q3 q4
    by_cases hz0 : z = 0
    · subst hz0
      obtain ⟨hl1, hRow⟩ := hret.out rfl
      subst hl1
      have hnew := hid_of (heap_alloc_new W4 (.cells #[.slice a1 t.items.length c1, .int .i64 ((schemaS 0 0 t).1 : Int)] 62))
      have hB5 := hid_of (hB4.out.alloc hB4.out.size (.cells #[.slice a1 t.items.length c1, .int .i64 ((schemaS 0 0 t).1 : Int)] 62))
      have hRow5 := hid_of (hRow.keep (w' := W4.alloc (.cells #[.slice a1 t.items.length c1, .int .i64 ((schemaS 0 0 t).1 : Int)] 62)) (T := fun k => w.heap.size ≤ k ∧ k < (W4.alloc (.cells #[.slice a1 t.items.length c1, .int .i64 ((schemaS 0 0 t).1 : Int)] 62)).heap.size) (fun k hk hlt => Below.heap_alloc _ _ _ hlt) (fun k hk => ⟨by have := hsz3.out; omega, by rw [World.size_alloc]; omega⟩))
      obtain ⟨nn, hnn⟩ : ∃ nn, Hid (((schemaS 0 0 t).1 : Int) = nn) := ⟨_, rfl⟩
      rw [hnn.out] at hnew hB5 hRow5 hrd
      clear hret hRow
      go_wp2_with fail
      go_ret2
      refine ⟨hB5.out, .pointer (some ⟨W4.heap.size, 0, none⟩), ?_, fun e => absurd hz.out e, fun _ => ⟨W4.heap.size, a1, c1, rfl, ?_, ?_, hRow5.out⟩⟩
      · rw [hz.out]; rfl
      · have h1 := hsz3.out; have h2 := hsz4.out; omega
      · rw [hnn.out]; exact hnew.out
    · have hb0 : (z != 0) = true := by simpa using hz0
      have hz0' : Hid (¬ z = 0) := hz0
      clear hz0 hret
      go_wp2_with fail
      go_ret2
      refine ⟨hB4.out, .pointer none, ?_, fun _ => rfl, fun e => ?_⟩
      · rw [hz.out]; rfl
      · rw [hz.out] at e; exact absurd e hz0'.out
  · have hb0 : (c != 0) = true := by simpa using h0
    have hpz : Hid (parseZ t = c) := by rw [Hid]; unfold parseZ; rw [hc.out, if_neg h0]
    have h0' : Hid (¬ c = 0) := h0
    clear h0
    go_wp2_with fail
    go_ret2
    refine ⟨hB1.out, .pointer none, ?_, fun _ => rfl, fun e => ?_⟩
    · rw [hpz.out]; rfl
    · rw [hpz.out] at e; exact absurd e h0'.out
end Go.Proofs.YtbcfkajcmbckbaaGreatDoor
