import Derived.Test.YtnccaidlcaeeaaaGreatDoorW4
import Derived.Test.YtnccaidlcaeeaaaGreatDoorShelf2
import Derived.Lib.ParseIntB
/-! What the reader comes to: plain functions; and how a value lies in memory. -/
namespace Go.Proofs.YtnccaidlcaeeaaaGreatDoor
open Go Go.RowKit

inductive J where
  | null | fls | tru
  | int (x : Int)
  | text (s : ByteArray)
  | list (l : List J)
  | obj (ns : List ByteArray) (l : List J)

def five (k x : Int) (s : ByteArray) (nm it : Value) : List Value := [.int .i64 k, .int .i64 x, .string s, nm, it]
def strs (l : List ByteArray) : List Value := l.map Value.string

mutual
/-- The five cells are the value j; its lists' blocks lie from lo on, and below hi. -/
def Rep (w : World) (lo hi : Nat) : J → List Value → Prop
  | .null, cs => cs = five 0 0 noS nilS nilS
  | .fls, cs => cs = five 1 0 noS nilS nilS
  | .tru, cs => cs = five 2 0 noS nilS nilS
  | .int x, cs => cs = five 3 x noS nilS nilS
  | .text s, cs => cs = five 4 0 s nilS nilS
  | .list l, cs => ∃ it xs, cs = five 5 0 noS nilS it ∧ w.ownsRow lo 25 5 it l.length xs ∧ (∀ g, it.ownBlock = some g → g < hi) ∧ RepL w lo hi it.ownBlock.toList l xs
  | .obj ns l, cs => ∃ nm it xs, cs = five 6 0 noS nm it ∧ w.ownsRow lo 9 1 nm ns.length (strs ns) ∧ (∀ g, nm.ownBlock = some g → g < hi) ∧ w.ownsRow lo 25 5 it l.length xs ∧ (∀ g, it.ownBlock = some g → g < hi) ∧ ns.length = l.length ∧
      RepL w lo hi (nm.ownBlock.toList ++ it.ownBlock.toList) l xs
/-- One value behind the other; none has a block among obs. -/
def RepL (w : World) (lo hi : Nat) (obs : List Nat) : List J → List Value → Prop
  | [], xs => xs = []
  | j :: js, xs => ∃ lo' hi', lo ≤ lo' ∧ lo' ≤ hi' ∧ hi' ≤ hi ∧ (∀ g, g ∈ obs → ¬ (lo' ≤ g ∧ g < hi')) ∧ 5 ≤ xs.length ∧ Rep w lo' hi' j (xs.take 5) ∧ RepL w hi' hi obs js (xs.drop 5)
end

def numFin (T : ByteArray) (n m : Nat) : Lib.NumEnd Int → Res Int
  | .ok v => if m < T.size ∧ frac (byteAt T m) = true then .bad 14 m else .ok v m
  | _ => .bad 15 n
/-- A number from n on; its digits begin at k. -/
def numAt (T : ByteArray) (n k : Nat) : Res Int :=
  if k < T.size then
    if digit (byteAt T k) = true then
      numFin T n (numEnd T k) (Lib.parseIntB 64 (T.extract n (numEnd T k)).data.toList)
    else .bad 10 k
  else .bad 3 T.size
def numR (T : ByteArray) (n : Nat) : Res Int := numAt T n (if byteAt T n = 45 then n + 1 else n)

def Res.map {α β : Type} (f : α → β) : Res α → Res β
  | .ok x n => .ok (f x) n
  | .bad e p => .bad e p

def headR (T : ByteArray) (tx : Nat → Res ByteArray) (n : Nat) (li ob : Res J) : Res J :=
  if n < T.size then
    if byteAt T n = 110 then (litR T [110, 117, 108, 108] n).map fun _ => .null
    else if byteAt T n = 116 then (litR T [116, 114, 117, 101] n).map fun _ => .tru
    else if byteAt T n = 102 then (litR T [102, 97, 108, 115, 101] n).map fun _ => .fls
    else if byteAt T n = 45 ∨ digit (byteAt T n) = true then (numR T n).map .int
    else if byteAt T n = 34 then (tx n).map .text
    else if byteAt T n = 91 then li
    else if byteAt T n = 123 then ob
    else .bad 10 n
  else .bad 3 T.size

def hasName (had : List ByteArray) (s : ByteArray) : Bool := had.any fun t => decide (t.data = s.data)
/-- Behind a name's text: it must be new, and a colon must follow. -/
def nameFin (T : ByteArray) (had : List ByteArray) (n : Nat) : Res ByteArray → Res ByteArray
  | .bad e p => .bad e p
  | .ok s n' =>
    if hasName had s = true then .bad 16 n
    else if skip T n' < T.size then
      if byteAt T (skip T n') = 58 then .ok s (skip T (skip T n' + 1)) else .bad 10 (skip T n')
    else .bad 3 T.size
def nameR (T : ByteArray) (tx : Nat → Res ByteArray) (had : List ByteArray) (n : Nat) : Res ByteArray :=
  if n < T.size then (if byteAt T n = 34 then nameFin T had n (tx n) else .bad 10 n) else .bad 3 T.size

def itemR (val : Nat → Res J) (l : List J) (n : Nat) : Res (List J) := (val n).map fun j => l ++ [j]
def memberR (T : ByteArray) (tx : Nat → Res ByteArray) (val : Nat → Res J) (p : List ByteArray × List J) (n : Nat) : Res (List ByteArray × List J) :=
  match nameR T tx p.1 n with
  | .bad e q => .bad e q
  | .ok s n' => (val n').map fun j => (p.1 ++ [s], p.2 ++ [j])

/-- The value at a place; k: how many lists more may stand within one another. -/
def valR (T : ByteArray) (tx : Nat → Res ByteArray) : Nat → Nat → Res J
  | 0, n => headR T tx n (.bad 17 n) (.bad 17 n)
  | k + 1, n => headR T tx n ((betweenR (itemR (valR T tx k)) 93 T [] n).map .list) ((betweenR (memberR T tx (valR T tx k)) 125 T ([], []) n).map fun p => .obj p.1 p.2)

/-! Keeping. -/
theorem ownsRow_keep {w w' : World} {lo : Nat} {e : TypeId} {size : Nat} {v : Value} {n : Nat} {xs : List Value} (h : w.ownsRow lo e size v n xs) (hk : ∀ g, v.ownBlock = some g → w'.heap[g]? = w.heap[g]?) : w'.ownsRow lo e size v n xs := by
  obtain ⟨h1, h2⟩ := h
  refine ⟨h1, ?_⟩
  rcases h2 with h2 | ⟨g, cap, cur, rfl, hg, hh, r⟩
  · exact Or.inl h2
  · exact Or.inr ⟨g, cap, cur, rfl, hg, by rw [hk g rfl]; exact hh, r⟩
theorem ownsRow_lower {w : World} {lo lo' : Nat} {e : TypeId} {size : Nat} {v : Value} {n : Nat} {xs : List Value} (h : w.ownsRow lo e size v n xs) (hl : lo' ≤ lo) : w.ownsRow lo' e size v n xs := by
  obtain ⟨h1, h2⟩ := h
  refine ⟨h1, ?_⟩
  rcases h2 with h2 | ⟨g, cap, cur, rfl, hg, hh, r⟩
  · exact Or.inl h2
  · exact Or.inr ⟨g, cap, cur, rfl, Nat.le_trans hl hg, hh, r⟩
theorem ownsRow_ge {w : World} {lo : Nat} {e : TypeId} {size : Nat} {v : Value} {n : Nat} {xs : List Value} (h : w.ownsRow lo e size v n xs) {g : Nat} (hg : v.ownBlock = some g) : lo ≤ g ∧ g < w.heap.size := by
  rcases h.2 with ⟨rfl, _⟩ | ⟨g', cap, cur, rfl, hg', hh, r⟩
  · cases hg
  · cases hg; exact ⟨hg', (Array.getElem?_eq_some_iff.1 hh).1⟩

mutual
theorem Rep.keep {w w' : World} {lo hi : Nat} : (j : J) → (cs : List Value) → Rep w lo hi j cs → (∀ k, lo ≤ k → k < hi → w'.heap[k]? = w.heap[k]?) → Rep w' lo hi j cs
  | .null, _, h, _ => h
  | .fls, _, h, _ => h
  | .tru, _, h, _ => h
  | .int _, _, h, _ => h
  | .text _, _, h, _ => h
  | .list l, cs, h, hk => by
    unfold Rep at *
    obtain ⟨it, xs, h1, h2, h3, h4⟩ := h
    exact ⟨it, xs, h1, ownsRow_keep h2 (fun g hg => hk g (ownsRow_ge h2 hg).1 (h3 g hg)), h3, RepL.keep l xs h4 hk⟩
  | .obj ns l, cs, h, hk => by
    unfold Rep at *
    obtain ⟨nm, it, xs, h1, h2, h3, h4, h5, h6, h7⟩ := h
    exact ⟨nm, it, xs, h1, ownsRow_keep h2 (fun g hg => hk g (ownsRow_ge h2 hg).1 (h3 g hg)), h3, ownsRow_keep h4 (fun g hg => hk g (ownsRow_ge h4 hg).1 (h5 g hg)), h5, h6, RepL.keep l xs h7 hk⟩
theorem RepL.keep {w w' : World} {lo hi : Nat} {obs : List Nat} : (l : List J) → (xs : List Value) → RepL w lo hi obs l xs → (∀ k, lo ≤ k → k < hi → w'.heap[k]? = w.heap[k]?) → RepL w' lo hi obs l xs
  | [], _, h, _ => h
  | j :: js, xs, h, hk => by
    unfold RepL at *
    obtain ⟨lo', hi', h1, h2, h3, h4, h5, h6, h7⟩ := h
    exact ⟨lo', hi', h1, h2, h3, h4, h5, Rep.keep j _ h6 (fun k a b => hk k (by omega) (by omega)), RepL.keep js _ h7 (fun k a b => hk k (by omega) b)⟩
end
end Go.Proofs.YtnccaidlcaeeaaaGreatDoor
