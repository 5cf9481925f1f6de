import Derived.Test.YtgjemghfejaifaaGreatDoorSJ
/-! schema: what is read, in memory; what reading a schema tells. -/
namespace Go.Proofs.YtgjemghfejaifaaGreatDoor
open Go Go.RowKit

mutual
/-- Rules, one behind the other: their words, and what their makers made. -/
def RulesL (w : World) (S : Nat → Prop) (b : Nat) : Nat → List ByteArray → List Tr → Prop
  | _, _, [] => True
  | i, ns, t :: ts => w.cell? ⟨b, i, none⟩ = some (.string (ns.headD noS)) ∧ (∃ r, w.cell? ⟨b, i + 1, none⟩ = some r ∧ RuleR w S (wordNo (ns.headD noS)) t r) ∧ RulesL w S b (i + 2) ns.tail ts
/-- A rule (told of properties and minimum alone). -/
def RuleR (w : World) (S : Nat → Prop) : Nat → Tr → Value → Prop
  | j, .node _ x _ ns its, r => (∃ ty v, r = .iface ty v) ∧
    (j = 3 → ∃ m a c, r = .iface 105 (.agg #[.map (some m), .slice a its.length c]) ∧ S m ∧ NumsAt w m ns.length (numsD ns) ∧ (its = [] ∨ ∃ b o, a = some ⟨b, o, none⟩ ∧ S b ∧ SchemasL w S b o its)) ∧
    (j = 10 → r = .iface 114 (.agg #[.int .i64 x, fnV 35]))
/-- Schemas, one behind the other. -/
def SchemasL (w : World) (S : Nat → Prop) (b : Nat) : Nat → List Tr → Prop
  | _, [] => True
  | i, .node _ _ _ ns its :: ts => (∃ a c, w.cell? ⟨b, i, none⟩ = some (.slice a its.length c) ∧ (its = [] ∨ ∃ b' o, a = some ⟨b', o, none⟩ ∧ S b' ∧ RulesL w S b' o ns its)) ∧ SchemasL w S b (i + 1) ts
end
/-- The rules of a schema. -/
def RowR (w : World) (S : Nat → Prop) (a : Option Addr) (ns : List ByteArray) (its : List Tr) : Prop := its = [] ∨ ∃ b o, a = some ⟨b, o, none⟩ ∧ S b ∧ RulesL w S b o ns its
def Kept (S : Nat → Prop) (w w' : World) : Prop := ∀ k, S k → k < w.heap.size → w'.heap[k]? = w.heap[k]?
theorem Kept.cell {S : Nat → Prop} {w w' : World} (h : Kept S w w') {p : Addr} {v : Value} (hc : w.cell? p = some v) (hS : S p.block) : w'.cell? p = some v := (World.cell?_of_block (w := w) (h _ hS (lt_of_cell hc))).trans hc
mutual
theorem RulesL.keep {w w' : World} {S T : Nat → Prop} (hk : Kept S w w') (hT : ∀ k, S k → T k) {b : Nat} (hb : S b) : (i : Nat) → (ns : List ByteArray) → (its : List Tr) → RulesL w S b i ns its → RulesL w' T b i ns its
  | _, _, [], _ => by unfold RulesL; trivial
  | i, ns, t :: ts, h => by
    unfold RulesL at *
    obtain ⟨h1, ⟨r, h2, h3⟩, h4⟩ := h
    exact ⟨hk.cell h1 hb, ⟨r, hk.cell h2 hb, RuleR.keep hk hT _ t r h3⟩, RulesL.keep hk hT hb (i + 2) ns.tail ts h4⟩
theorem RuleR.keep {w w' : World} {S T : Nat → Prop} (hk : Kept S w w') (hT : ∀ k, S k → T k) : (j : Nat) → (t : Tr) → (r : Value) → RuleR w S j t r → RuleR w' T j t r
  | j, .node k x s ns its, r, h => by
    unfold RuleR at *
    obtain ⟨h0, h1, h2⟩ := h
    refine ⟨h0, fun e => ?_, h2⟩
    obtain ⟨m, a, c, e1, e2, e3, e4⟩ := h1 e
    refine ⟨m, a, c, e1, hT m e2, e3.keep (hk m e2 e3.lt), ?_⟩
    rcases e4 with e4 | ⟨b, o, e5, e6, e7⟩
    · exact .inl e4
    · exact .inr ⟨b, o, e5, hT b e6, SchemasL.keep hk hT e6 o its e7⟩
theorem SchemasL.keep {w w' : World} {S T : Nat → Prop} (hk : Kept S w w') (hT : ∀ k, S k → T k) {b : Nat} (hb : S b) : (i : Nat) → (its : List Tr) → SchemasL w S b i its → SchemasL w' T b i its
  | _, [], _ => by unfold SchemasL; trivial
  | i, .node k x s ns its :: ts, h => by
    unfold SchemasL at *
    obtain ⟨⟨a, c, h1, h2⟩, h3⟩ := h
    refine ⟨⟨a, c, hk.cell h1 hb, ?_⟩, SchemasL.keep hk hT hb (i + 1) ts h3⟩
    rcases h2 with h2 | ⟨b', o, e1, e2, e3⟩
    · exact .inl h2
    · exact .inr ⟨b', o, e1, hT b' e2, RulesL.keep hk hT e2 o ns its e3⟩
end
theorem RowR.keep {w w' : World} {S T : Nat → Prop} (hk : Kept S w w') (hT : ∀ k, S k → T k) {a : Option Addr} {ns : List ByteArray} {its : List Tr} (h : RowR w S a ns its) : RowR w' T a ns its := by
  rcases h with h | ⟨b, o, h1, h2, h3⟩
  · exact .inl h
  · exact .inr ⟨b, o, h1, hT b h2, RulesL.keep hk hT h2 o ns its h3⟩
/-- Cells of rules. -/
def RulesX (w : World) (S : Nat → Prop) : List Value → List ByteArray → List Tr → Prop
  | xs, _, [] => xs = []
  | xs, ns, t :: ts => ∃ r rest, xs = .string (ns.headD noS) :: r :: rest ∧ RuleR w S (wordNo (ns.headD noS)) t r ∧ RulesX w S rest ns.tail ts
theorem RulesX.keep {w w' : World} {S T : Nat → Prop} (hk : Kept S w w') (hT : ∀ k, S k → T k) : {its : List Tr} → {xs : List Value} → {ns : List ByteArray} → RulesX w S xs ns its → RulesX w' T xs ns its
  | [], _, _, h => h
  | _ :: _, _, _, h => by
    unfold RulesX at *
    obtain ⟨r, rest, h1, h2, h3⟩ := h
    exact ⟨r, rest, h1, RuleR.keep hk hT _ _ _ h2, RulesX.keep hk hT h3⟩
theorem RulesX.snoc {w : World} {S : Nat → Prop} {t : Tr} {s : ByteArray} {r : Value} (hr : RuleR w S (wordNo s) t r) : {its : List Tr} → {ns : List ByteArray} → {xs : List Value} → ns.length = its.length → RulesX w S xs ns its → RulesX w S (xs ++ [.string s, r]) (ns ++ [s]) (its ++ [t])
  | [], ns, xs, hl, h => by
    have hn : ns = [] := List.eq_nil_of_length_eq_zero hl
    unfold RulesX at h
    subst hn h
    show RulesX w S [.string s, r] [s] [t]
    unfold RulesX
    exact ⟨r, [], rfl, hr, by unfold RulesX; rfl⟩
  | u :: us, ns, xs, hl, h => by
    cases ns with
    | nil => simp at hl
    | cons n ns =>
      unfold RulesX at h
      obtain ⟨q, rest, rfl, h2, h3⟩ := h
      show RulesX w S (.string n :: q :: (rest ++ [.string s, r])) (n :: (ns ++ [s])) (u :: (us ++ [t]))
      unfold RulesX
      exact ⟨q, rest ++ [.string s, r], rfl, h2, RulesX.snoc hr (by simpa using hl) h3⟩
theorem RulesX.row {w : World} {S : Nat → Prop} {b : Nat} : {its : List Tr} → {xs : List Value} → {ns : List ByteArray} → {i : Nat} → RulesX w S xs ns its → (∀ j u, xs[j]? = some u → w.cell? ⟨b, i + j, none⟩ = some u) → RulesL w S b i ns its
  | [], _, _, _, _, _ => by unfold RulesL; trivial
  | t :: ts, xs, ns, i, h, hc => by
    unfold RulesX at h
    obtain ⟨r, rest, rfl, h2, h3⟩ := h
    unfold RulesL
    refine ⟨by simpa using hc 0 _ rfl, ⟨r, hc 1 _ rfl, h2⟩, RulesX.row h3 fun j u hj => ?_⟩
    have := hc (j + 2) u (by simpa using hj)
    rw [show i + (j + 2) = i + 2 + j by omega] at this
    exact this
/-- Cells of schemas. -/
def SchemasX (w : World) (S : Nat → Prop) : List Value → List Tr → Prop
  | xs, [] => xs = []
  | xs, t :: ts => ∃ a c rest, xs = .slice a t.items.length c :: rest ∧ RowR w S a t.names t.items ∧ SchemasX w S rest ts
theorem SchemasX.keep {w w' : World} {S T : Nat → Prop} (hk : Kept S w w') (hT : ∀ k, S k → T k) : {its : List Tr} → {xs : List Value} → SchemasX w S xs its → SchemasX w' T xs its
  | [], _, h => h
  | _ :: _, _, h => by
    unfold SchemasX at *
    obtain ⟨a, c, rest, h1, h2, h3⟩ := h
    exact ⟨a, c, rest, h1, h2.keep hk hT, SchemasX.keep hk hT h3⟩
theorem SchemasX.snoc {w : World} {S : Nat → Prop} {t : Tr} {a : Option Addr} {c : Nat} (hr : RowR w S a t.names t.items) : {its : List Tr} → {xs : List Value} → SchemasX w S xs its → SchemasX w S (xs ++ [.slice a t.items.length c]) (its ++ [t])
  | [], xs, h => by
    unfold SchemasX at h
    subst h
    show SchemasX w S [.slice a t.items.length c] [t]
    unfold SchemasX
    exact ⟨a, c, [], rfl, hr, by unfold SchemasX; rfl⟩
  | u :: us, xs, h => by
    unfold SchemasX at h
    obtain ⟨a', c', rest, rfl, h2, h3⟩ := h
    show SchemasX w S (.slice a' u.items.length c' :: (rest ++ [.slice a t.items.length c])) (u :: (us ++ [t]))
    unfold SchemasX
    exact ⟨a', c', _, rfl, h2, SchemasX.snoc hr h3⟩
theorem SchemasX.row {w : World} {S : Nat → Prop} {b : Nat} : {its : List Tr} → {xs : List Value} → {i : Nat} → SchemasX w S xs its → (∀ j u, xs[j]? = some u → w.cell? ⟨b, i + j, none⟩ = some u) → SchemasL w S b i its
  | [], _, _, _, _ => by unfold SchemasL; trivial
  | .node k x s ns its :: ts, xs, i, h, hc => by
    unfold SchemasX at h
    obtain ⟨a, c, rest, rfl, h2, h3⟩ := h
    unfold SchemasL
    refine ⟨⟨a, c, by have := hc 0 _ rfl; rw [Nat.add_zero] at this; exact this, h2⟩, SchemasX.row h3 fun j u hj => ?_⟩
    have := hc (j + 1) u (by simpa using hj)
    rw [show i + (j + 1) = i + 1 + j by omega] at this
    exact this

/-- What stands ahead of the reader: the Value (as it lies in w0), the table, the types' names. -/
structure EnvS (w0 w : World) (br m : Nat) : Prop where
  tab : Tab w br m
  tys : TysAt w
  lt : 0 < br
  base : w0.heap.size ≤ br
  old : Below w0.heap.size w0 w
theorem EnvS.fr {w0 w w' : World} {br m : Nat} (h : EnvS w0 w br m) (hF : Fr (fun b => b = br) w w') : EnvS w0 w' br m :=
  ⟨h.tab.fr hF, h.tys.keep (hF.block _ (lt_of_cell (h.tys 0 (by decide))) (by have := h.lt; show ¬ _ = br; omega)), h.lt, h.base, h.old.trans (hF.below h.old.size (fun i e => by subst e; exact h.base))⟩
/-- What reading a schema leaves. -/
structure SchemaPost (w : World) (br m d n : Nat) (t : Tr) (e : Ending) (w' : World) : Prop where
  fr : Fr (fun b => b = br) w w'
  rd : ReaderAt w' br m (schemaS d n t).1
  le : (schemaS d n t).1 ≤ 128
  ret : ∃ a l c, e = .returned (.tuple #[.slice a l c, .int .i64 (schemaS d n t).2]) ∧ ((schemaS d n t).2 = 0 → l = t.items.length ∧ RowR w' (fun k => w.heap.size ≤ k ∧ k < w'.heap.size) a t.names t.items)
/-- A tree's schema is read. -/
def SchemaOk (w0 : World) (t : Tr) : Prop := ∀ (d n br m : Nat) (u : V5) (w : World), d ≤ 9 → n ≤ 128 → VRep w0 t u.cs → SmallT t → NamesT t → EnvS w0 w br m → ReaderAt w br m n →
  Calls Tryz.prog 19 #[.pointer (some ⟨br, 0, none⟩), u.v, .int .i64 (d : Int)] w (SchemaPost w br m d n t)
end Go.Proofs.YtgjemghfejaifaaGreatDoor
