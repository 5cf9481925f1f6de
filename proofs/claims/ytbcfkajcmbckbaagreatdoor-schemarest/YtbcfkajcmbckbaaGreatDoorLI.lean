import Derived.Test.YtbcfkajcmbckbaaGreatDoorSQ
import Derived.Maps.Views
import Derived.Lib.RuneCount
/-! schema: what a value keeps, plain. -/
namespace Go.Proofs.YtbcfkajcmbckbaaGreatDoor
open Go Go.RowKit

/-- Is it that very value? -/
noncomputable def eqT (t u : Tr) : Bool := @decide (t = u) (Classical.propDecidable _)
/-- The number of a name: that of its last place. -/
def noOf (ns : List ByteArray) (s : ByteArray) : Option Nat := (ns.foldl (fun (p : Option Nat × Nat) a => (if a = s then some p.2 else p.1, p.2 + 1)) (none, 0)).1
theorem noOf_two (ns : List ByteArray) (s : ByteArray) : (ns.foldl (fun (p : Option Nat × Nat) a => (if a = s then some p.2 else p.1, p.2 + 1)) (none, 0)).2 = ns.length := by
  have : ∀ (l : List ByteArray) (o : Option Nat) (n : Nat), (l.foldl (fun (p : Option Nat × Nat) a => (if a = s then some p.2 else p.1, p.2 + 1)) (o, n)).2 = n + l.length := by
    intro l
    induction l with
    | nil => intro o n; rfl
    | cons a l ih => intro o n; rw [List.foldl_cons, ih]; simp; omega
  rw [this]; omega
theorem noOf_snoc (l : List ByteArray) (a s : ByteArray) : noOf (l ++ [a]) s = if a = s then some l.length else noOf l s := by
  unfold noOf
  rw [List.foldl_append, List.foldl_cons, List.foldl_nil, noOf_two]
theorem numsD_isMap (l : List ByteArray) : ∃ es, numsD l = .map es := by
  unfold numsD
  have : ∀ (l : List ByteArray) (D : DataW Unit) (n : Nat), (∃ es, D = .map es) → ∃ es, (l.foldl (fun (p : DataW Unit × Nat) s => (p.1.put (keyL s) (.lit (.int .i64 (p.2 : Int))), p.2 + 1)) (D, n)).1 = .map es := by
    intro l
    induction l with
    | nil => intro D n h; exact h
    | cons a l ih =>
      intro D n h
      rw [List.foldl_cons]
      refine ih _ _ ?_
      obtain ⟨es, rfl⟩ := h
      exact ⟨_, rfl⟩
  exact this l _ 0 ⟨[], rfl⟩
/-- An object's members: the names that have an item. -/
def mbrsT (v : Tr) : List ByteArray := v.names.take v.items.length
/-- Is a name among these? -/
def memB (l : List ByteArray) (s : ByteArray) : Bool := l.any fun a => decide (a = s)
/-- Does a value keep a rule that holds no schema? bn: the names that properties has beside it. -/
noncomputable def plainK (bn : List ByteArray) (j : Nat) (t v : Tr) : Bool :=
  if j = 0 then decide (0 ≤ v.kind) && (decide (v.kind < 7) && tyF (tyL t) v.kind.toNat) else
  if j = 1 then t.items.any (fun x => eqT x v) else
  if j = 2 then !(v.kind == 6) || t.items.all (fun x => memB (mbrsT v) x.text) else
  if j = 4 then (t.kind == 2) || (!(v.kind == 6) || (mbrsT v).all (fun s => memB bn s)) else
  if j = 6 then !(v.kind == 5) || decide (t.int ≤ (v.items.length : Int)) else
  if j = 7 then !(v.kind == 5) || decide ((v.items.length : Int) ≤ t.int) else
  if j = 8 then !(v.kind == 4) || decide (t.int ≤ (Lib.runeCount v.text : Int)) else
  if j = 9 then !(v.kind == 4) || decide ((Lib.runeCount v.text : Int) ≤ t.int) else
  if j = 10 then !(v.kind == 3) || decide (t.int ≤ v.int) else
  if j = 11 then !(v.kind == 3) || decide (v.int ≤ t.int) else
  if j = 12 then !(v.kind == 3) || (v.int.tmod t.int == 0) else true
mutual
/-- Does a value keep the rules of a schema? -/
noncomputable def keepsL (bn : List ByteArray) : List ByteArray → List Tr → Tr → Bool
  | _, [], _ => true
  | ns, t :: ts, v => keepsR bn (wordNo (ns.headD noS)) t v && keepsL bn ns.tail ts v
termination_by structural _ its => its
/-- A rule. -/
noncomputable def keepsR (bn : List ByteArray) : Nat → Tr → Tr → Bool
  | j, .node k x s ns its, v =>
    if j = 3 then !(v.kind == 6) || (List.range (mbrsT v).length).all (fun i => match noOf ns ((mbrsT v).getD i noS) with
      | none => true
      | some q => keepsAt its q (v.items.getD i zeroT)) else
    if j = 5 then !(v.kind == 5) || v.items.all (fun y => keepsL (besideN (.node k x s ns its)) ns its y) else
    if j = 15 then !keepsL (besideN (.node k x s ns its)) ns its v else
    if j = 13 then keepsAny its v else
    if j = 14 then keepsAll its v else plainK bn j (.node k x s ns its) v
termination_by structural _ t => t
/-- The schema at a number. -/
noncomputable def keepsAt : List Tr → Nat → Tr → Bool
  | [], _, _ => true
  | .node k x s ns its :: ts, q, v => if q = 0 then keepsL (besideN (.node k x s ns its)) ns its v else keepsAt ts (q - 1) v
termination_by structural its => its
noncomputable def keepsAny : List Tr → Tr → Bool
  | [], _ => false
  | .node k x s ns its :: ts, v => keepsL (besideN (.node k x s ns its)) ns its v || keepsAny ts v
termination_by structural its => its
noncomputable def keepsAll : List Tr → Tr → Bool
  | [], _ => true
  | .node k x s ns its :: ts, v => keepsL (besideN (.node k x s ns its)) ns its v && keepsAll ts v
termination_by structural its => its
end
/-- A tree as a schema: does a value keep it? -/
noncomputable def keepsT (t v : Tr) : Bool := keepsL (besideN t) t.names t.items v
end Go.Proofs.YtbcfkajcmbckbaaGreatDoor
/-! schema: which trees are schemas, told without the count of rules; plain. -/
namespace Go.Proofs.YtbcfkajcmbckbaaGreatDoor
open Go Go.RowKit

/-- A rule that holds schemas. -/
def nestJ (j : Nat) : Bool := j == 3 || j == 5 || j == 15 || j == 13 || j == 14
mutual
/-- Is it what the rule may be given, however many rules there are? -/
def okR : Nat → Nat → Tr → Prop
  | d, j, .node k x s ns its =>
    (j = 3 → k = 6 ∧ okL (d + 1) its) ∧ (j = 5 ∨ j = 15 → k = 6 ∧ ¬ 8 < d + 1 ∧ okM (d + 1) ns its) ∧ (j = 13 ∨ j = 14 → (k = 5 ∧ its ≠ []) ∧ okL (d + 1) its) ∧ (nestJ j = false → (ruleS 0 0 j (.node k x s ns its)).2 = 0)
def okM : Nat → List ByteArray → List Tr → Prop
  | _, _, [] => True
  | d, ns, t :: ts => okR d (wordNo (ns.headD noS)) t ∧ okM d ns.tail ts
def okL : Nat → List Tr → Prop
  | _, [] => True
  | d, .node k _ _ ns its :: ts => (k = 6 ∧ ¬ 8 < d ∧ okM d ns its) ∧ okL d ts
end
mutual
/-- How many rules it holds. -/
def cR : Nat → Tr → Nat
  | j, .node _ _ _ ns its => if j = 3 ∨ j = 13 ∨ j = 14 then cL its else if j = 5 ∨ j = 15 then cM ns its else 0
def cM : List ByteArray → List Tr → Nat
  | _, [] => 0
  | ns, t :: ts => 1 + cR (wordNo (ns.headD noS)) t + cM ns.tail ts
def cL : List Tr → Nat
  | [] => 0
  | .node _ _ _ ns its :: ts => cM ns its + cL ts
end
def okS (d : Nat) (t : Tr) : Prop := t.kind = 6 ∧ ¬ 8 < d ∧ okM d t.names t.items
def cS (t : Tr) : Nat := cM t.names t.items
/-- A rule that holds no schema: how deep it stands has no part. -/
theorem rule_plain (d n j : Nat) (t : Tr) (h : nestJ j = false) : ruleS d n j t = (n, (ruleS 0 0 j t).2) := by
  obtain ⟨k, x, s, ns, its⟩ := t
  simp only [nestJ, Bool.or_eq_false_iff, beq_eq_false_iff_ne, ne_eq] at h
  obtain ⟨⟨⟨⟨h3, h5⟩, h15⟩, h13⟩, h14⟩ := h
  have a1 : ¬ (j = 5 ∨ j = 15) := by omega
  have a2 : ¬ (j = 13 ∨ j = 14) := by omega
  rw [ruleS, ruleS]
  simp only [h3, a1, a2, if_false]
  repeat' split
  all_goals rfl
/-- What the words of a count come to. -/
def Fits (r : Nat × Int) (ok : Prop) (n c : Nat) : Prop := (r.2 = 0 ↔ ok ∧ n + c ≤ 128) ∧ (r.2 = 0 → r.1 = n + c)
theorem Fits.no {n m c : Nat} {e : Int} {ok : Prop} (he : e ≠ 0) (h : ¬ ok) : Fits (m, e) ok n c := ⟨⟨fun h' => absurd h' he, fun h' => absurd h'.1 h⟩, fun h' => absurd h' he⟩
mutual
theorem rule_fits : (d n j : Nat) → (t : Tr) → n ≤ 128 → Fits (ruleS d n j t) (okR d j t) n (cR j t)
  | d, n, j, .node k x s ns its, hn => by
    by_cases hp : nestJ j = false
    · rw [rule_plain d n j _ hp]
      simp only [nestJ, Bool.or_eq_false_iff, beq_eq_false_iff_ne, ne_eq] at hp
      obtain ⟨⟨⟨⟨h3, h5⟩, h15⟩, h13⟩, h14⟩ := hp
      have hc : cR j (.node k x s ns its) = 0 := by
        rw [cR, if_neg (by omega), if_neg (by omega)]
      have hp : nestJ j = false := by simp [nestJ, h3, h5, h15, h13, h14]
      rw [hc]
      refine ⟨⟨fun h => ⟨?_, by omega⟩, fun h => ?_⟩, fun _ => rfl⟩
      · rw [okR]
        exact ⟨fun e => absurd e h3, fun e => by omega, fun e => by omega, fun _ => h⟩
      · have := h.1
        rw [okR] at this
        exact this.2.2.2 hp
    · have hj : j = 3 ∨ (j = 5 ∨ j = 15) ∨ (j = 13 ∨ j = 14) := by
        simp [nestJ] at hp
        omega
      rcases hj with rfl | hj | hj
      · rw [ruleS, cR]
        simp only [show ¬ (3 : Nat) = 0 by omega, show ¬ (3 : Nat) = 1 by omega, show ¬ (3 : Nat) = 2 by omega, if_true, if_false, true_or]
        by_cases hk : k = 6
        · rw [if_pos hk]
          obtain ⟨h1, h2⟩ := list_fits (d + 1) n its hn
          refine ⟨⟨fun h => ?_, fun h => ?_⟩, h2⟩
          · have := h1.1 h
            refine ⟨?_, this.2⟩
            rw [okR]
            exact ⟨fun _ => ⟨hk, this.1⟩, fun e => by omega, fun e => by omega, fun e => by simp [nestJ] at e⟩
          · have h' := h.1
            rw [okR] at h'
            exact h1.2 ⟨(h'.1 rfl).2, h.2⟩
        · rw [if_neg hk]
          refine Fits.no (by decide) (fun h => ?_)
          rw [okR] at h
          exact hk (h.1 rfl).1
      · have hc : cR j (.node k x s ns its) = cM ns its := by rw [cR, if_neg (by omega), if_pos hj]
        have hr : ruleS d n j (.node k x s ns its) = if k = 6 then (if 8 < d + 1 then (n, 211) else membersS (d + 1) n ns its) else (n, 210) := by
          rw [ruleS, if_neg (by omega), if_neg (by omega), if_neg (by omega), if_neg (by omega), if_neg (by omega), if_pos hj]
        rw [hc, hr]
        by_cases hk : k = 6
        · rw [if_pos hk]
          by_cases hd : 8 < d + 1
          · rw [if_pos hd]
            refine Fits.no (by decide) (fun h => ?_)
            rw [okR] at h
            exact (h.2.1 hj).2.1 hd
          · rw [if_neg hd]
            obtain ⟨h1, h2⟩ := members_fits (d + 1) n ns its hn
            refine ⟨⟨fun h => ?_, fun h => ?_⟩, h2⟩
            · have := h1.1 h
              refine ⟨?_, this.2⟩
              rw [okR]
              exact ⟨fun e => by omega, fun _ => ⟨hk, hd, this.1⟩, fun e => by omega, fun e => absurd e hp⟩
            · have h' := h.1
              rw [okR] at h'
              exact h1.2 ⟨(h'.2.1 hj).2.2, h.2⟩
        · rw [if_neg hk]
          refine Fits.no (by decide) (fun h => ?_)
          rw [okR] at h
          exact hk (h.2.1 hj).1
      · have hc : cR j (.node k x s ns its) = cL its := by rw [cR, if_pos (by omega)]
        have hr : ruleS d n j (.node k x s ns its) = if k = 5 ∧ its ≠ [] then listS (d + 1) n its else (n, 210) := by
          rw [ruleS, if_neg (by omega), if_neg (by omega), if_neg (by omega), if_neg (by omega), if_neg (by omega), if_neg (by omega), if_pos hj]
        rw [hc, hr]
        by_cases hk : k = 5 ∧ its ≠ []
        · rw [if_pos hk]
          obtain ⟨h1, h2⟩ := list_fits (d + 1) n its hn
          refine ⟨⟨fun h => ?_, fun h => ?_⟩, h2⟩
          · have := h1.1 h
            refine ⟨?_, this.2⟩
            rw [okR]
            exact ⟨fun e => by omega, fun e => by omega, fun _ => ⟨hk, this.1⟩, fun e => absurd e hp⟩
          · have h' := h.1
            rw [okR] at h'
            exact h1.2 ⟨(h'.2.2.1 hj).2, h.2⟩
        · rw [if_neg hk]
          refine Fits.no (by decide) (fun h => ?_)
          rw [okR] at h
          exact hk (h.2.2.1 hj).1
theorem members_fits : (d n : Nat) → (ns : List ByteArray) → (its : List Tr) → n ≤ 128 → Fits (membersS d n ns its) (okM d ns its) n (cM ns its)
  | d, n, ns, [], hn => by
    rw [membersS, okM, cM]
    exact ⟨⟨fun _ => ⟨trivial, hn⟩, fun _ => rfl⟩, fun _ => rfl⟩
  | d, n, ns, t :: ts, hn => by
    rw [membersS, okM, cM]
    by_cases h128 : n = 128
    · rw [if_pos h128]
      exact ⟨⟨fun h => (by cases h), fun h => (by omega)⟩, fun h => (by cases h)⟩
    · rw [if_neg h128]
      obtain ⟨h1, h2⟩ := rule_fits d (n + 1) (wordNo (ns.headD noS)) t (by omega)
      generalize ruleS d (n + 1) (wordNo (ns.headD noS)) t = R at h1 h2
      by_cases hR : R.2 = 0
      · rw [if_pos hR, h2 hR]
        have a := h1.1 hR
        obtain ⟨g1, g2⟩ := members_fits d (n + 1 + cR (wordNo (ns.headD noS)) t) ns.tail ts a.2
        refine ⟨⟨fun h => ?_, fun h => ?_⟩, fun h => ?_⟩
        · have b := g1.1 h
          exact ⟨⟨a.1, b.1⟩, by omega⟩
        · exact g1.2 ⟨h.1.2, by omega⟩
        · rw [g2 h]; omega
      · rw [if_neg hR]
        refine ⟨⟨fun h => absurd h hR, fun h => ?_⟩, fun h => absurd h hR⟩
        exact h1.2 ⟨h.1.1, by omega⟩
theorem list_fits : (d n : Nat) → (its : List Tr) → n ≤ 128 → Fits (listS d n its) (okL d its) n (cL its)
  | d, n, [], hn => by
    rw [listS, okL, cL]
    exact ⟨⟨fun _ => ⟨trivial, hn⟩, fun _ => rfl⟩, fun _ => rfl⟩
  | d, n, .node k x s ns its :: ts, hn => by
    rw [listS, okL, cL]
    by_cases hk : k = 6
    · simp only [if_pos hk]
      by_cases hd : 8 < d
      · simp only [if_pos hd]
        exact Fits.no (by decide) (fun h => h.1.2.1 hd)
      · simp only [if_neg hd]
        obtain ⟨h1, h2⟩ := members_fits d n ns its hn
        generalize membersS d n ns its = R at h1 h2
        by_cases hR : R.2 = 0
        · rw [if_pos hR, h2 hR]
          have a := h1.1 hR
          obtain ⟨g1, g2⟩ := list_fits d (n + cM ns its) ts a.2
          refine ⟨⟨fun h => ?_, fun h => ?_⟩, fun h => ?_⟩
          · have b := g1.1 h
            exact ⟨⟨⟨hk, hd, a.1⟩, b.1⟩, by omega⟩
          · exact g1.2 ⟨h.1.2, by omega⟩
          · rw [g2 h]; omega
        · rw [if_neg hR]
          refine ⟨⟨fun h => absurd h hR, fun h => ?_⟩, fun h => absurd h hR⟩
          exact h1.2 ⟨h.1.1.2.2, by omega⟩
    · simp only [if_neg hk]
      exact Fits.no (by decide) (fun h => hk h.1.1)
end
theorem schema_fits (d n : Nat) (t : Tr) (hn : n ≤ 128) : Fits (schemaS d n t) (okS d t) n (cS t) := by
  unfold schemaS okS cS
  by_cases hk : t.kind = 6
  · rw [if_pos hk]
    by_cases hd : 8 < d
    · rw [if_pos hd]
      exact Fits.no (by decide) (fun h => h.2.1 hd)
    · rw [if_neg hd]
      obtain ⟨h1, h2⟩ := members_fits d n t.names t.items hn
      exact ⟨⟨fun h => ⟨⟨hk, hd, (h1.1 h).1⟩, (h1.1 h).2⟩, fun h => h1.2 ⟨h.1.2.2, h.2⟩⟩, h2⟩
  · rw [if_neg hk]
    exact Fits.no (by decide) (fun h => hk h.1)
mutual
/-- What may stand deeper may stand higher. -/
theorem okR_up : (d j : Nat) → (t : Tr) → okR (d + 1) j t → okR d j t
  | d, j, .node k x s ns its, h => by
    rw [okR] at h ⊢
    refine ⟨fun e => ⟨(h.1 e).1, okL_up (d + 1) its (h.1 e).2⟩, fun e => ?_, fun e => ⟨(h.2.2.1 e).1, okL_up (d + 1) its (h.2.2.1 e).2⟩, h.2.2.2⟩
    obtain ⟨h1, h2, h3⟩ := h.2.1 e
    exact ⟨h1, by omega, okM_up (d + 1) ns its h3⟩
theorem okM_up : (d : Nat) → (ns : List ByteArray) → (its : List Tr) → okM (d + 1) ns its → okM d ns its
  | d, ns, [], h => by rw [okM]; trivial
  | d, ns, t :: ts, h => by
    rw [okM] at h ⊢
    exact ⟨okR_up d _ t h.1, okM_up d _ ts h.2⟩
theorem okL_up : (d : Nat) → (its : List Tr) → okL (d + 1) its → okL d its
  | d, [], h => by rw [okL]; trivial
  | d, .node k x s ns its :: ts, h => by
    rw [okL] at h ⊢
    exact ⟨⟨h.1.1, by have := h.1.2.1; omega, okM_up d ns its h.1.2.2⟩, okL_up d ts h.2⟩
end
theorem okS_up {d : Nat} {t : Tr} (h : okS (d + 1) t) : okS d t := ⟨h.1, by have := h.2.1; omega, okM_up d _ _ h.2.2⟩
/-! The order of rules. -/
theorem zip_rev {α β : Type} : (l : List α) → (m : List β) → l.length = m.length → l.reverse.zip m.reverse = (l.zip m).reverse
  | [], [], _ => rfl
  | [], _ :: _, h => by simp at h
  | _ :: _, [], h => by simp at h
  | a :: l, b :: m, h => by
    have hl : l.length = m.length := by simpa using h
    rw [List.reverse_cons, List.reverse_cons, List.zip_append (by simp [hl]), zip_rev l m hl]
    simp
theorem okM_zip (d : Nat) : (ns : List ByteArray) → (its : List Tr) → ns.length = its.length → (okM d ns its ↔ ∀ p ∈ ns.zip its, okR d (wordNo p.1) p.2)
  | [], [], _ => by simp [okM]
  | [], _ :: _, h => by simp at h
  | _ :: _, [], h => by simp at h
  | a :: l, b :: m, h => by
    rw [okM, okM_zip d _ m (by simpa using h)]
    simp
theorem cM_zip : (ns : List ByteArray) → (its : List Tr) → ns.length = its.length → cM ns its = ((ns.zip its).map fun p => 1 + cR (wordNo p.1) p.2).sum
  | [], [], _ => by simp [cM]
  | [], _ :: _, h => by simp at h
  | _ :: _, [], h => by simp at h
  | a :: l, b :: m, h => by
    rw [cM, cM_zip _ m (by simpa using h)]
    simp
theorem keepsL_zip (bn : List ByteArray) (v : Tr) : (ns : List ByteArray) → (its : List Tr) → ns.length = its.length → keepsL bn ns its v = (ns.zip its).all fun p => keepsR bn (wordNo p.1) p.2 v
  | [], [], _ => by simp [keepsL]
  | [], _ :: _, h => by simp at h
  | _ :: _, [], h => by simp at h
  | a :: l, b :: m, h => by
    rw [keepsL, keepsL_zip bn v _ m (by simpa using h)]
    simp
end Go.Proofs.YtbcfkajcmbckbaaGreatDoor
