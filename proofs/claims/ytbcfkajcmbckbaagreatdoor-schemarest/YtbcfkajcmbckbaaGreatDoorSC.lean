import Derived.Test.YtbcfkajcmbckbaaGreatDoorSA
import Derived.Test.YtbcfkajcmbckbaaGreatDoorAQ
import Derived.Test.YtbcfkajcmbckbaaGreatDoorK0
import Derived.Test.YtbcfkajcmbckbaaGreatDoorC2
/-! schema: what Parse tells of a tree (plain); the reader in memory. -/
namespace Go.Proofs.YtbcfkajcmbckbaaGreatDoor
open Go Go.RowKit

/-- The number of a word. -/
def wordNo (s : ByteArray) : Nat :=
  if s = wType then 0 else if s = wEnum then 1 else if s = wRequired then 2 else if s = wProperties then 3 else if s = wAdditional then 4 else if s = wItems then 5 else
  if s = wMinItems then 6 else if s = wMaxItems then 7 else if s = wMinLength then 8 else if s = wMaxLength then 9 else if s = wMinimum then 10 else if s = wMaximum then 11 else if s = wDivisible then 12 else
  if s = wAnyOf then 13 else if s = wAllOf then 14 else if s = wNot then 15 else 16
/-- The types' names at the kinds. -/
def tys : List ByteArray := [⟨#[110, 117, 108, 108]⟩, ⟨#[98, 111, 111, 108]⟩, ⟨#[98, 111, 111, 108]⟩, ⟨#[105, 110, 116]⟩, ⟨#[115, 116, 114, 105, 110, 103]⟩, ⟨#[97, 114, 114, 97, 121]⟩, ⟨#[111, 98, 106, 101, 99, 116]⟩]
def tyAt (q : Nat) : ByteArray := tys.getD q noS
/-- Is that a type's name? -/
def tyName (s : ByteArray) : Bool := tys.any (fun t => decide (t = s))
def isTy (t : Tr) : Bool := (t.kind == 4) && tyName t.text
/-- What type may be given. -/
def typeOk (k : Int) (s : ByteArray) (its : List Tr) : Bool := if k = 5 then (decide (its ≠ []) && its.all isTy) else ((k == 4) && tyName s)
/-- The least that a rule of numbers may be given. -/
def leastOf (j : Nat) : Int := if j = 12 then 1 else if j = 10 ∨ j = 11 then -9223372036854775808 else 0
mutual
/-- The members of a schema: how many rules there are then, and the first error. -/
def membersS : Nat → Nat → List ByteArray → List Tr → Nat × Int
  | _, n, _, [] => (n, 0)
  | d, n, ns, t :: ts =>
    if n = 128 then (n, 211) else
    if (ruleS d (n + 1) (wordNo (ns.headD noS)) t).2 = 0 then membersS d (ruleS d (n + 1) (wordNo (ns.headD noS)) t).1 ns.tail ts else ruleS d (n + 1) (wordNo (ns.headD noS)) t
/-- One rule, by its word. -/
def ruleS : Nat → Nat → Nat → Tr → Nat × Int
  | d, n, j, .node k x s ns its =>
    if j = 0 then (n, if typeOk k s its = true then 0 else 210) else
    if j = 1 then (n, if k = 5 ∧ its ≠ [] then 0 else 210) else
    if j = 2 then (n, if k = 5 ∧ its.all (fun t => t.kind == 4) = true then 0 else 210) else
    if j = 3 then (if k = 6 then listS (d + 1) n its else (n, 210)) else
    if j = 4 then (n, if k = 1 ∨ k = 2 then 0 else 210) else
    if j = 5 ∨ j = 15 then (if k = 6 then (if 8 < d + 1 then (n, 211) else membersS (d + 1) n ns its) else (n, 210)) else
    if j = 13 ∨ j = 14 then (if k = 5 ∧ its ≠ [] then listS (d + 1) n its else (n, 210)) else
    if j = 16 then (n, 210) else (n, if k = 3 ∧ leastOf j ≤ x then 0 else 210)
/-- Several schemas. -/
def listS : Nat → Nat → List Tr → Nat × Int
  | _, n, [] => (n, 0)
  | d, n, .node k _ _ ns its :: ts =>
    if (if k = 6 then (if 8 < d then (n, (211 : Int)) else membersS d n ns its) else (n, 210)).2 = 0 then listS d (if k = 6 then (if 8 < d then (n, (211 : Int)) else membersS d n ns its) else (n, 210)).1 ts
    else (if k = 6 then (if 8 < d then (n, (211 : Int)) else membersS d n ns its) else (n, 210))
end
/-- A tree as a schema. -/
def schemaS (d n : Nat) (t : Tr) : Nat × Int := if t.kind = 6 then (if 8 < d then (n, 211) else membersS d n t.names t.items) else (n, 210)
theorem listS_cons (d n : Nat) (t : Tr) (ts : List Tr) : listS d n (t :: ts) = if (schemaS d n t).2 = 0 then listS d (schemaS d n t).1 ts else schemaS d n t := by
  obtain ⟨k, x, s, ns, its⟩ := t
  rw [listS]
  rfl
mutual
/-- As many names as items in every object. -/
def NamesT : Tr → Prop
  | .node k _ _ ns its => (k = 6 → ns.length = its.length) ∧ NamesL its
def NamesL : List Tr → Prop
  | [] => True
  | t :: ts => NamesT t ∧ NamesL ts
end
theorem NamesL.at {its : List Tr} (h : NamesL its) : ∀ {i : Nat} {t : Tr}, its[i]? = some t → NamesT t := by
  induction its with
  | nil => intro i t hi; simp at hi
  | cons u us ih =>
    intro i t hi
    unfold NamesL at h
    cases i with
    | zero =>
      have : u = t := by simpa using hi
      exact this ▸ h.1
    | succ i => exact ih h.2 (by simpa using hi)

/-- The reader. -/
def ReaderAt (w : World) (br m n : Nat) : Prop := w.heap[br]? = some (.cells #[.map (some m), .int .i64 (n : Int)] 56 (0, 0))
theorem ReaderAt.cells {w : World} {br m n : Nat} (h : ReaderAt w br m n) : w.cell? ⟨br, 0, none⟩ = some (.map (some m)) ∧ w.cell? ⟨br, 1, none⟩ = some (.int .i64 (n : Int)) ∧ w.frozen? ⟨br, 1, none⟩ = false := by
  unfold ReaderAt at h
  refine ⟨?_, ?_, ?_⟩ <;> simp [World.cell?, World.frozen?, h]
theorem ReaderAt.lt {w : World} {br m n : Nat} (h : ReaderAt w br m n) : br < w.heap.size := (Array.getElem?_eq_some_iff.1 h).1
theorem ReaderAt.keep {w w' : World} {br m n : Nat} (h : ReaderAt w br m n) (hb : Below w.heap.size w w') : ReaderAt w' br m n := (hb.block _ h.lt).trans h
theorem ReaderAt.set {w : World} {br m n : Nat} (h : ReaderAt w br m n) (n' : Int) (q : Nat) (e : n' = (q : Int)) : ReaderAt (w.setCell ⟨br, 1, none⟩ (.int .i64 n')) br m q := by
  subst e
  unfold ReaderAt at h ⊢
  simp [World.setCell, Array.getElem?_modify, h]
/-- The table, and where the reader stands behind it. -/
structure Tab (w : World) (br m : Nat) : Prop where
  tab : ∃ b0 b1 b2 b3 b4 b5 b6, Table w m b0 b1 b2 b3 b4 b5 b6 ∧ (b0 + 1 < br ∧ b1 + 1 < br ∧ b2 + 1 < br ∧ b3 + 1 < br ∧ b4 + 1 < br ∧ b5 + 1 < br ∧ b6 + 1 < br)
  lt : m < br
theorem Tab.fr {w w' : World} {br m : Nat} (h : Tab w br m) (hF : Fr (fun b => b = br) w w') : Tab w' br m := by
  obtain ⟨⟨b0, b1, b2, b3, b4, b5, b6, h1, h2⟩, h3⟩ := h
  refine ⟨⟨b0, b1, b2, b3, b4, b5, b6, h1.kept (br := br) (fun k hk hne => hF.block k hk hne) (by omega) ?_ ?_ ?_ ?_ ?_ ?_ ?_, h2⟩, h3⟩
  all_goals omega
/-- Blocks ahead of the reader are as they were. -/
theorem agree_fr {w w' : World} {br : Nat} (hF : Fr (fun b => b = br) w w') : Agree (· < br) w w' :=
  ⟨hF.size, fun p u hp h => hF.cell h (by show ¬ p.block = br; have : p.block < br := hp; omega)⟩
end Go.Proofs.YtbcfkajcmbckbaaGreatDoor
