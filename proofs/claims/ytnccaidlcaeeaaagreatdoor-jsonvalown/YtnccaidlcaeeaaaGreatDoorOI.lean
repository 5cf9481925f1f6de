import Derived.Test.YtnccaidlcaeeaaaGreatDoorOF
import Derived.Test.YtnccaidlcaeeaaaGreatDoorR5
/-! What apart leans on: the lists of all values within a value as slices with room; how they are filled and grown. -/
namespace Go.Proofs.YtnccaidlcaeeaaaGreatDoor.Tree
open Go Go.RowKit

/-- A number in decimal, as a text. -/
def dig (j : Nat) : ByteArray := ⟨(Lib.itoa (j : Int)).toArray⟩
def FS (j r : Nat) (ys : List Value) : Prop := ∀ p, p < r → ys[p]? = some (.string (dig j))
def FV (j r : Nat) (zs : List Value) : Prop := ∀ p, p < r → zs[p * 5 + 1]? = some (.int .i64 j)
/-- A value as it stands in the list. -/
structure Nd where
  k : Int
  x : Int
  s : ByteArray
  an : Option Addr
  n : Nat
  cn : Nat
  ai : Option Addr
  m : Nat
  ci : Nat
def Nd.head (d : Nd) : List Value := five d.k d.x d.s (.slice d.an d.n d.cn) (.slice d.ai d.m d.ci)
def flatN (l : List Nd) : List Value := l.flatMap Nd.head
/-- The blocks of a value's own lists. -/
def Nd.bl (d : Nd) (b : Nat) : Prop := blkOf d.an b ∨ blkOf d.ai b
/-- What stays of the values: where their lists lie. -/
structure Nds (S : Nat → Prop) (W0 : Nat) (nds : List Nd) : Prop where
  few : nds.length * 80 ≤ 140737488355328
  sm : ∀ (i : Nat) (d : Nd), nds[i]? = some d → (d.n + 16) * 16 ≤ 140737488355328 ∧ (d.m + 16) * 80 ≤ 140737488355328
  bk : ∀ (i : Nat) (d : Nd) (b : Nat), nds[i]? = some d → d.bl b → S b ∧ b < W0
  one : ∀ (i j : Nat) (d e : Nd) (b : Nat), nds[i]? = some d → nds[j]? = some e → d.bl b → e.bl b → i = j
  two : ∀ (i : Nat) (d : Nd) (b : Nat), nds[i]? = some d → blkOf d.an b → ¬ blkOf d.ai b
  za : ∀ (i : Nat) (d : Nd), nds[i]? = some d → d.an = none ∨ ∃ g, d.an = some ⟨g, 0, none⟩
  zi : ∀ (i : Nat) (d : Nd), nds[i]? = some d → d.ai = none ∨ ∃ g, d.ai = some ⟨g, 0, none⟩
/-- The two lists of a value. -/
def RwN (w : World) (d : Nd) (P Q : List Value → Prop) : Prop := (∃ ys, Rw w 0 1 d.an d.n d.cn ys ∧ P ys) ∧ ∃ zs, Rw w 0 5 d.ai d.m d.ci zs ∧ Q zs
theorem blk_some {g o : Nat} {b : Nat} : blkOf (some ⟨g, o, none⟩) b ↔ b = g := ⟨fun ⟨_, _, e⟩ => by cases e; rfl, fun e => ⟨o, none, by rw [e]⟩⟩
theorem rw_of {w : World} {lo : Nat} {e : TypeId} {size n : Nat} {a : Option Addr} {c : Nat} {xs : List Value} (h : w.ownsRow lo e size (.slice a n c) n xs) : Rw w lo size a n c xs := by
  obtain ⟨h1, h2⟩ := h
  rcases h2 with ⟨hv, h0⟩ | ⟨g, cap, cur, hv, hg, hh, hc, hm, hs, hr⟩
  · injection hv with v1 v2 v3
    subst v1 v3
    exact ⟨h1, by omega, by unfold maxLen; omega, .inl rfl⟩
  · injection hv with v1 v2 v3
    subst v1 v3
    refine ⟨h1, hc, hm, .inr ⟨g, 0, rfl, hg, (Array.getElem?_eq_some_iff.1 hh).1, block_there _ _ _ _ hh _ (by rw [hs]; exact Nat.le_refl _), block_range _ _ _ _ hh _ (fun j u hj => ?_)⟩⟩
    have hlt := (List.getElem?_eq_some_iff.1 hj).1
    rw [← hr, List.getElem?_take_of_lt (by rw [← h1]; exact hlt), Array.getElem?_toList] at hj
    exact hj
theorem owns_zero {w : World} {lo : Nat} {e : TypeId} {size n : Nat} {a : Option Addr} {c : Nat} {xs : List Value} (h : w.ownsRow lo e size (.slice a n c) n xs) : a = none ∨ ∃ g, a = some ⟨g, 0, none⟩ := by
  rcases h.2 with ⟨hv, h0⟩ | ⟨g, cap, cur, hv, -⟩
  · injection hv with v1 v2 v3
    exact .inl v1
  · injection hv with v1 v2 v3
    exact .inr ⟨g, v1⟩
theorem own_blk {a : Option Addr} {n c b : Nat} : (Value.slice a n c).ownBlock = some b ↔ blkOf a b := by
  cases a with
  | none => simp [Value.ownBlock, blkOf]
  | some q =>
    obtain ⟨g, o, s⟩ := q
    constructor
    · intro h
      have : g = b := by simpa [Value.ownBlock] using h
      exact ⟨o, s, by rw [this]⟩
    · rintro ⟨o', s', e⟩
      cases e
      rfl
theorem Rw.set {w : World} {lo size b o n cap : Nat} {xs : List Value} (h : Rw w lo size (some ⟨b, o, none⟩) n cap xs) (j : Nat) (hj : j < xs.length) (v : Value) : Rw (w.setCell ⟨b, o + j, none⟩ v) lo size (some ⟨b, o, none⟩) n cap (xs.set j v) := by
  refine ⟨by rw [List.length_set]; exact h.len, h.le, h.mx, ?_⟩
  rcases h.pt with h0 | ⟨b', o', e, h1, h2, h3, h4⟩
  · exact .inl h0
  · cases e
    refine .inr ⟨b, o, rfl, h1, by simpa [World.setCell] using h2, fun q hq => ?_, fun q u hu => ?_⟩
    · have := World.there_setCells h3 b (o + j) [v] q hq
      exact this
    · by_cases hq : q = j
      · subst hq
        rw [List.getElem?_set_self hj] at hu
        cases hu
        exact World.cell?_setCell_same' w _ v (by rw [h4 q _ (List.getElem?_eq_getElem hj)]; rfl)
      · rw [List.getElem?_set_ne (by omega)] at hu
        rw [World.cell?_setCell_other w _ _ v (by intro e; injection e with e1 e2; omega)]
        exact h4 q u hu
theorem Rw.prefix {w : World} {lo size n m cap : Nat} {a : Option Addr} {xs ys : List Value} (h : Rw w lo size a (n + m) cap (xs ++ ys)) (hx : xs.length = n * size) : Rw w lo size a n cap xs := by
  refine ⟨hx, by have := h.le; omega, h.mx, ?_⟩
  rcases h.pt with h0 | ⟨b, o, rfl, h1, h2, h3, h4⟩
  · exact .inl h0
  · exact .inr ⟨b, o, rfl, h1, h2, h3, fun j v hv => h4 j v (by rw [List.getElem?_append_left (List.getElem?_eq_some_iff.1 hv).1]; exact hv)⟩
theorem Rw.addr {w : World} {lo size n cap : Nat} {a : Option Addr} {xs : List Value} (h : Rw w lo size a n cap xs) (hn : 0 < n) : ∃ b o, a = some ⟨b, o, none⟩ := by
  rcases h.pt with h0 | ⟨b, o, rfl, -⟩
  · have := h.le; omega
  · exact ⟨b, o, rfl⟩
/-- A cell that may be written. -/
theorem Rw.at {w : World} {lo size b o n cap : Nat} {xs : List Value} (h : Rw w lo size (some ⟨b, o, none⟩) n cap xs) {j : Nat} (hj : j < n * size) : (∃ u, w.cell? ⟨b, o + j, none⟩ = some u) ∧ w.frozen? ⟨b, o + j, none⟩ = false := by
  rcases h.pt with h0 | ⟨b', o', e, h1, h2, h3, h4⟩
  · have := h.le
    have : n = 0 := by omega
    rw [this] at hj
    omega
  · cases e
    have hle : n * size ≤ cap * size := Nat.mul_le_mul_right _ h.le
    have := h3 j (by omega)
    exact ⟨Option.isSome_iff_exists.1 this.1, this.2⟩
theorem Rw.put5 {w : World} {lo b n cap : Nat} {xs : List Value} (h : Rw w lo 5 (Option.some ⟨b, 0, none⟩) n cap xs) (k : Nat) (hk : k < n) (j : Nat) (hF : FV j k xs) :
    ∃ ys, Rw (((((w.setCell ⟨b, k * 5, none⟩ (.int .i64 0)).setCell ⟨b, k * 5 + 1, none⟩ (.int .i64 j)).setCell ⟨b, k * 5 + 2, none⟩ (.string ⟨#[]⟩)).setCell ⟨b, k * 5 + 3, none⟩ (.slice none 0 0)).setCell ⟨b, k * 5 + 4, none⟩ (.slice none 0 0)) lo 5 (Option.some ⟨b, 0, none⟩) n cap ys ∧ FV j (k + 1) ys := by
  have hl := h.len
  have e : ∀ q, (⟨b, 0 + q, none⟩ : Addr) = ⟨b, q, none⟩ := fun q => by rw [Nat.zero_add]
  have s0 := h.set (k * 5) (by omega) (.int .i64 0)
  have s1 := s0.set (k * 5 + 1) (by simp only [List.length_set]; omega) (.int .i64 j)
  have s2 := s1.set (k * 5 + 2) (by simp only [List.length_set]; omega) (.string ⟨#[]⟩)
  have s3 := s2.set (k * 5 + 3) (by simp only [List.length_set]; omega) (.slice none 0 0)
  have s4 := s3.set (k * 5 + 4) (by simp only [List.length_set]; omega) (.slice none 0 0)
  simp only [e] at s4
  refine ⟨_, s4, fun p hp => ?_⟩
  rw [List.getElem?_set_ne (by omega), List.getElem?_set_ne (by omega), List.getElem?_set_ne (by omega)]
  by_cases hq : p = k
  · subst hq
    rw [List.getElem?_set_self (by simp only [List.length_set]; omega)]
  · rw [List.getElem?_set_ne (by omega), List.getElem?_set_ne (by omega)]
    exact hF p (by omega)
theorem Rw.put1 {w : World} {lo b n cap : Nat} {xs : List Value} (h : Rw w lo 1 (Option.some ⟨b, 0, none⟩) n cap xs) (k : Nat) (hk : k < n) (j : Nat) (hF : FS j k xs) :
    ∃ ys, Rw (w.setCell ⟨b, k, none⟩ (.string (dig j))) lo 1 (Option.some ⟨b, 0, none⟩) n cap ys ∧ FS j (k + 1) ys := by
  have hl := h.len
  have s0 := h.set k (by omega) (.string (dig j))
  rw [Nat.zero_add] at s0
  refine ⟨_, s0, fun p hp => ?_⟩
  by_cases hq : p = k
  · subst hq
    rw [List.getElem?_set_self (by omega)]
  · rw [List.getElem?_set_ne (by omega)]
    exact hF p (by omega)
/-- A list of values that stands in memory. -/
structure LRow (w : World) (lo g N c : Nat) (nds : List Nd) : Prop where
  row : Rw w lo 5 (some ⟨g, 0, none⟩) N c (flatN nds)
theorem flatN_at : {l : List Nd} → {i : Nat} → {d : Nd} → l[i]? = some d → ∀ j, j < 5 → (flatN l)[i * 5 + j]? = d.head[j]?
  | [], _, _, h, _, _ => by simp at h
  | t :: ts, 0, d, h, j, hj => by
    have : t = d := by simpa using h
    subst this
    simp only [flatN, List.flatMap_cons]
    rw [List.getElem?_append_left (by simp [Nd.head, five]; omega)]
    congr 1
    omega
  | t :: ts, i + 1, d, h, j, hj => by
    have ih := flatN_at (l := ts) (i := i) (d := d) (by simpa using h) j hj
    simp only [flatN, List.flatMap_cons] at ih ⊢
    have hl : t.head.length = 5 := rfl
    rw [List.getElem?_append_right (by rw [hl]; omega), hl, ← ih]
    congr 1
    omega
theorem rw_cell {w : World} {lo size g n c : Nat} {xs : List Value} (h : Rw w lo size (some ⟨g, 0, none⟩) n c xs) {j : Nat} {u : Value} (hj : xs[j]? = some u) : w.cell? ⟨g, j, none⟩ = some u := by
  obtain ⟨b, o, e, -, h2⟩ := h.cell hj
  cases e
  rwa [Nat.zero_add] at h2
/-- Both lists stay where their blocks stay. -/
theorem RwN.keep {w w' : World} {d : Nd} {P Q : List Value → Prop} (h : RwN w d P Q) (hs : w.heap.size ≤ w'.heap.size) (hk : ∀ b, d.bl b → b < w.heap.size → w'.heap[b]? = w.heap[b]?) : RwN w' d P Q := by
  obtain ⟨⟨ys, h1, h2⟩, zs, h3, h4⟩ := h
  exact ⟨⟨ys, h1.keep hs (fun b hb hl => hk b (.inl hb) hl), h2⟩, zs, h3.keep hs (fun b hb hl => hk b (.inr hb) hl), h4⟩
theorem RwN.imp {w : World} {d : Nd} {P Q P' Q' : List Value → Prop} (h : RwN w d P Q) (hP : ∀ y, P y → P' y) (hQ : ∀ y, Q y → Q' y) : RwN w d P' Q' := by
  obtain ⟨⟨ys, h1, h2⟩, zs, h3, h4⟩ := h
  exact ⟨⟨ys, h1, hP _ h2⟩, zs, h3, hQ _ h4⟩
/-- The values as they stand in the list, out of the tree in memory. -/
theorem nds_of {w : World} {h : HT} (hO : OwnF w h) (hS : ∀ u ∈ preT h, (u.names.length + 16) * 16 ≤ 140737488355328 ∧ (u.kids.length + 16) * 80 ≤ 140737488355328) (hf : (preT h).length * 80 ≤ 140737488355328) :
    ∃ nds : List Nd, nds.length = (preT h).length ∧ flatH (preT h) = flatN nds ∧ Nds (· ∈ bksT h) w.heap.size nds ∧ ∀ (i : Nat) (d : Nd), nds[i]? = some d → RwN w d (fun _ => True) (fun _ => True) := by
  let f : HT → Nd := fun u => match u with
    | .node k x s nm it ns kids => ⟨k, x, s, match nm with | .slice a _ _ => a | _ => none, ns.length, match nm with | .slice _ _ c => c | _ => 0, match it with | .slice a _ _ => a | _ => none, kids.length, match it with | .slice _ _ c => c | _ => 0⟩
  have hf1 : ∀ u ∈ preT h, u.head = (f u).head ∧ RwN w (f u) (fun _ => True) (fun _ => True) ∧ (∀ b, (f u).bl b ↔ b ∈ u.blks) ∧ (∀ b, blkOf (f u).an b → ¬ blkOf (f u).ai b) ∧ ((f u).an = none ∨ ∃ g, (f u).an = some ⟨g, 0, none⟩) ∧ ((f u).ai = none ∨ ∃ g, (f u).ai = some ⟨g, 0, none⟩) ∧ (f u).n = u.names.length ∧ (f u).m = u.kids.length := fun u hu => by
    have hr := hO.1 u hu
    cases u with
    | node k x s nm it ns kids =>
      obtain ⟨h1, h2⟩ := hr
      obtain ⟨a, c, rfl⟩ := ownsRow_slice h1
      obtain ⟨a', c', rfl⟩ := ownsRow_slice h2
      refine ⟨rfl, ⟨⟨_, rw_of h1, trivial⟩, _, rw_of h2, trivial⟩, fun b => ?_, fun b hb hb' => ?_, owns_zero h1, owns_zero h2, rfl, rfl⟩
      · show (blkOf a b ∨ blkOf a' b) ↔ _
        rw [← own_blk (n := ns.length) (c := c), ← own_blk (n := kids.length) (c := c')]
        simp [HT.blks]
      · rcases rows_apart h1 h2 (by decide) with e | e
        · have := own_blk (n := ns.length) (c := c).2 hb; rw [e] at this; cases this
        · exact e ((own_blk (n := ns.length) (c := c).2 hb).trans (own_blk (n := kids.length) (c := c').2 hb').symm)
  have hat : ∀ (i : Nat) (d : Nd), ((preT h).map f)[i]? = some d → ∃ u, (preT h)[i]? = some u ∧ f u = d := fun i d hd => by
    rw [List.getElem?_map] at hd
    cases hq : (preT h)[i]? with
    | none => rw [hq] at hd; cases hd
    | some u => rw [hq] at hd; cases hd; exact ⟨u, rfl, rfl⟩
  have hne : ∀ (l : List HT) (i j : Nat) (u v : HT) (b : Nat), (l.flatMap HT.blks).Nodup → l[i]? = some u → l[j]? = some v → b ∈ u.blks → b ∈ v.blks → i = j := by
    intro l
    induction l with
    | nil => intro i j u v b _ h1; simp at h1
    | cons t ts ih =>
      intro i j u v b hn h1 h2 h3 h4
      rw [List.flatMap_cons] at hn
      obtain ⟨n1, n2, n3⟩ := List.nodup_append.1 hn
      cases i with
      | zero =>
        cases j with
        | zero => rfl
        | succ j =>
          have e : t = u := by simpa using h1
          subst e
          exact absurd rfl (n3 b h3 b (List.mem_flatMap.2 ⟨v, List.mem_of_getElem? (by simpa using h2), h4⟩))
      | succ i =>
        cases j with
        | zero =>
          have e : t = v := by simpa using h2
          subst e
          exact absurd rfl (n3 b h4 b (List.mem_flatMap.2 ⟨u, List.mem_of_getElem? (by simpa using h1), h3⟩))
        | succ j => rw [ih i j u v b n2 (by simpa using h1) (by simpa using h2) h3 h4]
  refine ⟨(preT h).map f, by simp, ?_, ⟨by simpa using hf, fun i d hd => ?_, fun i d b hd hb => ?_, fun i j d e b hd he hb hb' => ?_, fun i d b hd hb => ?_, fun i d hd => ?_, fun i d hd => ?_⟩, fun i d hd => ?_⟩
  · have : ∀ l : List HT, (∀ u ∈ l, u.head = (f u).head) → flatH l = flatN (l.map f) := by
      intro l
      induction l with
      | nil => intro _; rfl
      | cons t ts ih =>
        intro hl
        have := ih (fun u hu => hl u (List.mem_cons_of_mem _ hu))
        simp only [flatH, flatN, List.flatMap_cons, List.map_cons] at this ⊢
        rw [this, hl t List.mem_cons_self]
    exact this _ (fun u hu => (hf1 u hu).1)
  · obtain ⟨u, hu, rfl⟩ := hat i d hd
    have := hS u (List.mem_of_getElem? hu)
    rw [(hf1 u (List.mem_of_getElem? hu)).2.2.2.2.2.2.1, (hf1 u (List.mem_of_getElem? hu)).2.2.2.2.2.2.2]
    exact this
  · obtain ⟨u, hu, rfl⟩ := hat i d hd
    have hb' : b ∈ bksT h := List.mem_flatMap.2 ⟨u, List.mem_of_getElem? hu, ((hf1 u (List.mem_of_getElem? hu)).2.2.1 b).1 hb⟩
    exact ⟨hb', hO.lt b hb'⟩
  · obtain ⟨u, hu, rfl⟩ := hat i d hd
    obtain ⟨v, hv, rfl⟩ := hat j e he
    exact hne _ i j u v b hO.2 hu hv (((hf1 u (List.mem_of_getElem? hu)).2.2.1 b).1 hb) (((hf1 v (List.mem_of_getElem? hv)).2.2.1 b).1 hb')
  · obtain ⟨u, hu, rfl⟩ := hat i d hd
    exact (hf1 u (List.mem_of_getElem? hu)).2.2.2.1 b hb
  · obtain ⟨u, hu, rfl⟩ := hat i d hd
    exact (hf1 u (List.mem_of_getElem? hu)).2.2.2.2.1
  · obtain ⟨u, hu, rfl⟩ := hat i d hd
    exact (hf1 u (List.mem_of_getElem? hu)).2.2.2.2.2.1
  · obtain ⟨u, hu, rfl⟩ := hat i d hd
    exact (hf1 u (List.mem_of_getElem? hu)).2.1
end Go.Proofs.YtnccaidlcaeeaaaGreatDoor.Tree
/-! apart: what its three loops keep. -/
namespace Go.Proofs.YtnccaidlcaeeaaaGreatDoor.Tree
open Go Go.RowKit

theorem FS.mono {j r r' : Nat} {ys : List Value} (h : FS j r ys) (hr : r' ≤ r) : FS j r' ys := fun p hp => h p (by omega)
theorem FV.mono {j r r' : Nat} {ys : List Value} (h : FV j r ys) (hr : r' ≤ r) : FV j r' ys := fun p hp => h p (by omega)
/-- The first loop: all values ahead of i are written full; of number i the first items and names. -/
structure ApA (S : Nat → Prop) (w : World) (nds : List Nd) (gl cl i k1 k2 : Nat) (wr : World) : Prop where
  fr : Fr S w wr
  row : Rw wr w.heap.size 5 (some ⟨gl, 0, none⟩) nds.length cl (flatN nds)
  each : ∀ (j : Nat) (d : Nd), nds[j]? = some d → RwN wr d (fun ys => (j < i → FS j d.n ys) ∧ (j = i → FS j k2 ys)) (fun zs => (j < i → FV j d.m zs) ∧ (j = i → FV j k1 zs))
theorem ApA.glo {S : Nat → Prop} {w : World} {nds : List Nd} {gl cl i k1 k2 : Nat} {wr : World} (h : ApA S w nds gl cl i k1 k2 wr) (hn : 0 < nds.length) : w.heap.size ≤ gl := by
  rcases h.row.pt with h0 | ⟨b, o, e, h1, -⟩
  · have := h.row.le; omega
  · cases e; exact h1
theorem ApA.next {S : Nat → Prop} {w : World} {nds : List Nd} {gl cl i : Nat} {wr : World} {d : Nd} (h : ApA S w nds gl cl i d.m d.n wr) (hd : nds[i]? = some d) : ApA S w nds gl cl (i + 1) 0 0 wr := by
  refine ⟨h.fr, h.row, fun j e he => (h.each j e he).imp (fun ys hy => ⟨fun hj => ?_, fun _ p hp => by omega⟩) (fun zs hz => ⟨fun hj => ?_, fun _ p hp => by omega⟩)⟩
  · rcases Nat.lt_or_ge j i with h1 | h1
    · exact hy.1 h1
    · have : j = i := by omega
      subst this
      rw [he] at hd
      cases hd
      exact hy.2 rfl
  · rcases Nat.lt_or_ge j i with h1 | h1
    · exact hz.1 h1
    · have : j = i := by omega
      subst this
      rw [he] at hd
      cases hd
      exact hz.2 rfl
/-- A change in the blocks of one value alone. -/
theorem ApA.change {S : Nat → Prop} {w : World} {nds : List Nd} {gl cl i k1 k2 k1' k2' : Nat} {wr w' : World} {d : Nd} (hN : Nds S w.heap.size nds) (h : ApA S w nds gl cl i k1 k2 wr) (hd : nds[i]? = some d) (hf : Fr (fun b => d.bl b) wr w')
    (hr : RwN w' d (FS i k2') (FV i k1')) : ApA S w nds gl cl i k1' k2' w' := by
  have hpos : 0 < nds.length := Nat.lt_of_le_of_lt (Nat.zero_le _) (List.getElem?_eq_some_iff.1 hd).1
  refine ⟨h.fr.next hf (fun b hb => .inl (hN.bk i d b hd hb).1), h.row.keep hf.size (fun b hb hl => hf.block b hl (fun hb' => ?_)), fun j e he => ?_⟩
  · rw [blk_some] at hb
    have := (hN.bk i d b hd hb').2
    have := h.glo hpos
    omega
  · by_cases hj : j = i
    · subst hj
      rw [he] at hd
      cases hd
      exact hr.imp (fun ys hy => ⟨fun hl => by omega, fun _ => hy⟩) (fun zs hz => ⟨fun hl => by omega, fun _ => hz⟩)
    · refine ((h.each j e he).keep hf.size (fun b hb hl => hf.block b hl (fun hb' => hj (hN.one j i e d b he hd hb hb')))).imp (fun ys hy => ⟨hy.1, fun e => absurd e hj⟩) (fun zs hz => ⟨hz.1, fun e => absurd e hj⟩)
theorem fr_sets {d : Nd} {b : Nat} {wr : World} (hb : d.bl b) (p : List (Nat × Value)) : Fr (fun b => d.bl b) wr (p.foldl (fun w q => w.setCell ⟨b, q.1, none⟩ q.2) wr) := by
  have : ∀ (p : List (Nat × Value)) (w : World), Fr (fun b => d.bl b) wr w → Fr (fun b => d.bl b) wr (p.foldl (fun w q => w.setCell ⟨b, q.1, none⟩ q.2) w) := by
    intro p
    induction p with
    | nil => intro w h; exact h
    | cons q p ih => intro w h; exact ih _ (h.set _ _ (.inl hb))
  exact this p wr (Fr.refl _ _)
theorem ApA.setV {S : Nat → Prop} {w : World} {nds : List Nd} {gl cl i k1 k2 b : Nat} {wr : World} {d : Nd} (hN : Nds S w.heap.size nds) (h : ApA S w nds gl cl i k1 k2 wr) (hd : nds[i]? = some d) (hb : d.ai = some ⟨b, 0, none⟩) (hk : k1 < d.m) :
    ApA S w nds gl cl i (k1 + 1) k2 (((((wr.setCell ⟨b, k1 * 5, none⟩ (.int .i64 0)).setCell ⟨b, k1 * 5 + 1, none⟩ (.int .i64 i)).setCell ⟨b, k1 * 5 + 2, none⟩ (.string ⟨#[]⟩)).setCell ⟨b, k1 * 5 + 3, none⟩ (.slice none 0 0)).setCell ⟨b, k1 * 5 + 4, none⟩ (.slice none 0 0)) := by
  have hbl : blkOf d.ai b := by rw [hb]; exact blk_some.2 rfl
  have hf := fr_sets (wr := wr) (b := b) (d := d) (.inr hbl) [(k1 * 5, .int .i64 0), (k1 * 5 + 1, .int .i64 i), (k1 * 5 + 2, .string ⟨#[]⟩), (k1 * 5 + 3, .slice none 0 0), (k1 * 5 + 4, .slice none 0 0)]
  obtain ⟨⟨ys, h1, h2⟩, zs, h3, h4⟩ := h.each i d hd
  rw [hb] at h3
  obtain ⟨zs', h5, h6⟩ := h3.put5 k1 hk i (h4.2 rfl)
  refine h.change hN hd hf ⟨⟨ys, h1.keep hf.size (fun q hq hl => ?_), h2.2 rfl⟩, zs', by rw [hb]; exact h5, h6⟩
  have hne : q ≠ b := fun e => hN.two i d q hd hq (by rw [e]; exact hbl)
  rw [Below.heap_setCell _ _ _ _ hne, Below.heap_setCell _ _ _ _ hne, Below.heap_setCell _ _ _ _ hne, Below.heap_setCell _ _ _ _ hne, Below.heap_setCell _ _ _ _ hne]
theorem ApA.below {S : Nat → Prop} {w : World} {nds : List Nd} {gl cl i k1 k2 : Nat} {wr w2 : World} (h : ApA S w nds gl cl i k1 k2 wr) (hb : Below wr.heap.size wr w2) : ApA S w nds gl cl i k1 k2 w2 :=
  ⟨h.fr.next (Fr.of_below (S := fun _ => False) hb) (fun _ e => e.elim), h.row.below hb, fun j d hd => (h.each j d hd).keep hb.size (fun b _ hl => hb.block b hl)⟩
theorem ApA.setN {S : Nat → Prop} {w : World} {nds : List Nd} {gl cl i k1 k2 b : Nat} {wr : World} {d : Nd} (hN : Nds S w.heap.size nds) (h : ApA S w nds gl cl i k1 k2 wr) (hd : nds[i]? = some d) (hb : d.an = some ⟨b, 0, none⟩) (hk : k2 < d.n) :
    ApA S w nds gl cl i k1 (k2 + 1) (wr.setCell ⟨b, k2, none⟩ (.string (dig i))) := by
  have hbl : blkOf d.an b := by rw [hb]; exact blk_some.2 rfl
  have hf : Fr (fun b => d.bl b) wr (wr.setCell ⟨b, k2, none⟩ (.string (dig i))) := (Fr.refl _ wr).set _ _ (.inl (.inl hbl))
  obtain ⟨⟨ys, h1, h2⟩, zs, h3, h4⟩ := h.each i d hd
  rw [hb] at h1
  obtain ⟨ys', h5, h6⟩ := h1.put1 k2 hk i (h2.2 rfl)
  refine h.change hN hd hf ⟨⟨ys', by rw [hb]; exact h5, h6⟩, zs, h3.keep hf.size (fun q hq hl => ?_), h4.2 rfl⟩
  have hne : q ≠ b := fun e => hN.two i d q hd (by rw [e]; exact hbl) hq
  exact Below.heap_setCell _ _ _ _ hne
/-- A list that is grown: as it was, and as it is. -/
structure L1 (W0 : Nat) (a0 : Option Addr) (n0 c0 sz : Nat) (F : Nat → List Value → Prop) (q : Nat) (a : Option Addr) (c : Nat) (wr : World) : Prop where
  old : ∃ ys, Rw wr 0 sz a0 n0 c0 ys ∧ F n0 ys
  new : ∃ ys, Rw wr 0 sz a (n0 + q) c ys ∧ F (n0 + q) ys
  pos : (a = a0 ∧ c = c0) ∨ ∃ g, a = some ⟨g, 0, none⟩ ∧ W0 ≤ g ∧ g < wr.heap.size
/-- What is said of the first cells alone. -/
structure Fst (sz : Nat) (F : Nat → List Value → Prop) (v : List Value) : Prop where
  pre : ∀ n m xs, n ≤ m → F m xs → xs.length = m * sz → F n (xs.take (n * sz))
  app : ∀ n xs, F n xs → xs.length = n * sz → F (n + 1) (xs ++ v)
theorem fst_s (j : Nat) : Fst 1 (FS j) [.string (dig j)] := by
  refine ⟨fun n m xs hn h hl p hp => ?_, fun n xs h hl p hp => ?_⟩
  · rw [List.getElem?_take_of_lt (by omega)]
    exact h p (by omega)
  · rcases Nat.lt_or_ge p n with h1 | h1
    · rw [List.getElem?_append_left (by omega)]; exact h p h1
    · rw [List.getElem?_append_right (by omega), show p - xs.length = 0 by omega]; rfl
theorem fst_v (j : Nat) : Fst 5 (FV j) [.int .i64 0, .int .i64 j, .string ⟨#[]⟩, .slice none 0 0, .slice none 0 0] := by
  refine ⟨fun n m xs hn h hl p hp => ?_, fun n xs h hl p hp => ?_⟩
  · rw [List.getElem?_take_of_lt (by omega)]
    exact h p (by omega)
  · rcases Nat.lt_or_ge p n with h1 | h1
    · rw [List.getElem?_append_left (by omega)]; exact h p h1
    · rw [List.getElem?_append_right (by omega), show p * 5 + 1 - xs.length = 1 by omega]; rfl
theorem L1.keep {W0 : Nat} {a0 : Option Addr} {n0 c0 sz : Nat} {F : Nat → List Value → Prop} {q : Nat} {a : Option Addr} {c : Nat} {wr w' : World} (h : L1 W0 a0 n0 c0 sz F q a c wr) (hs : wr.heap.size ≤ w'.heap.size) (hk : ∀ b, blkOf a0 b ∨ blkOf a b → b < wr.heap.size → w'.heap[b]? = wr.heap[b]?) : L1 W0 a0 n0 c0 sz F q a c w' := by
  obtain ⟨ys, h1, h2⟩ := h.old
  obtain ⟨zs, h3, h4⟩ := h.new
  refine ⟨⟨ys, h1.keep hs (fun b hb hl => hk b (.inl hb) hl), h2⟩, ⟨zs, h3.keep hs (fun b hb hl => hk b (.inr hb) hl), h4⟩, ?_⟩
  rcases h.pos with h5 | ⟨g, h5, h6, h7⟩
  · exact .inl h5
  · exact .inr ⟨g, h5, h6, by omega⟩
theorem L1.weak {W0 W1 : Nat} {a0 : Option Addr} {n0 c0 sz : Nat} {F : Nat → List Value → Prop} {q : Nat} {a : Option Addr} {c : Nat} {wr : World} (h : L1 W1 a0 n0 c0 sz F q a c wr) (hw : W0 ≤ W1) : L1 W0 a0 n0 c0 sz F q a c wr := by
  refine ⟨h.old, h.new, ?_⟩
  rcases h.pos with h5 | ⟨g, h5, h6, h7⟩
  · exact .inl h5
  · exact .inr ⟨g, h5, by omega, h7⟩
theorem L1.zero {W0 : Nat} {a0 : Option Addr} {n0 c0 sz : Nat} {F : Nat → List Value → Prop} {q : Nat} {a : Option Addr} {c : Nat} {wr : World} (h : L1 W0 a0 n0 c0 sz F q a c wr) (hz : a0 = none ∨ ∃ g, a0 = some ⟨g, 0, none⟩) : a = none ∨ ∃ g, a = some ⟨g, 0, none⟩ := by
  rcases h.pos with ⟨rfl, -⟩ | ⟨g, h5, -⟩
  · exact hz
  · exact .inr ⟨g, h5⟩
theorem L1.grow {W0 : Nat} {a0 : Option Addr} {n0 c0 sz : Nat} {F : Nat → List Value → Prop} {q : Nat} {a : Option Addr} {c : Nat} {wr w2 : World} {ys news : List Value} {g of c' : Nat} (hF : Fst sz F news) (h : L1 W0 a0 n0 c0 sz F q a c wr) (hW : W0 ≤ wr.heap.size) (hz : a0 = none ∨ ∃ g, a0 = some ⟨g, 0, none⟩) (h0 : ∀ b, blkOf a0 b → b < W0)
    (hy : Rw wr 0 sz a (n0 + q) c ys) (hFy : F (n0 + q) ys) (hA : Appd wr 0 sz a (n0 + q) 1 c (ys ++ news) g of c' w2) : of = 0 ∧ L1 W0 a0 n0 c0 sz F (q + 1) (some ⟨g, 0, none⟩) c' w2 := by
  have hof : of = 0 := by
    rcases hA.at' with ⟨e, -, -⟩ | ⟨-, e, -⟩
    · rcases h.zero hz with e' | ⟨g', e'⟩
      · rw [e'] at e; cases e
      · rw [e'] at e; cases e; rfl
    · exact e
  subst hof
  have hrow := hA.row
  have hFn : F (n0 + (q + 1)) (ys ++ news) := hF.app _ _ hFy hy.len
  refine ⟨rfl, ?_, ⟨_, hrow, hFn⟩, ?_⟩
  · rcases hA.at' with ⟨e, ec, hle⟩ | ⟨eg, -, hle⟩
    · rcases h.pos with ⟨rfl, rfl⟩ | ⟨g', e', hg', hl'⟩
      · refine ⟨(ys ++ news).take (n0 * sz), ?_, ?_⟩
        · rw [e]
          rw [ec] at hrow
          have hl : (ys ++ news).length = (n0 + (q + 1)) * sz := hrow.len
          have hle2 : n0 * sz ≤ (n0 + (q + 1)) * sz := Nat.mul_le_mul_right _ (by omega)
          refine Rw.prefix (m := q + 1) (ys := (ys ++ news).drop (n0 * sz)) (by rw [List.take_append_drop]; exact hrow) ?_
          rw [List.length_take, hl]
          omega
        · exact hF.pre n0 (n0 + (q + 1)) _ (by omega) hFn hrow.len
      · obtain ⟨zs, h1, h2⟩ := h.old
        refine ⟨zs, h1.keep hA.fr.size (fun b hb hl => hA.fr.block b hl (fun hx => ?_)), h2⟩
        have hb' := hx.1
        rw [e', blk_some] at hb'
        have := h0 b hb
        omega
    · obtain ⟨zs, h1, h2⟩ := h.old
      exact ⟨zs, h1.keep hA.fr.size (fun b hb hl => hA.fr.block b hl (fun hx => by have := hx.2; omega)), h2⟩
  · rcases hA.at' with ⟨e, ec, hle⟩ | ⟨eg, -, hle⟩
    · rcases h.pos with ⟨e1, e2⟩ | ⟨g', e', hg', hl'⟩
      · exact .inl ⟨by rw [← e, e1], by rw [ec, e2]⟩
      · rw [e'] at e
        cases e
        exact .inr ⟨g, rfl, hg', hA.lt⟩
    · exact .inr ⟨g, rfl, by omega, hA.lt⟩
/-- Both lists of a value that is grown. -/
structure Gr (W0 : Nat) (d : Nd) (i qi qn : Nat) (an : Option Addr) (cn : Nat) (ai : Option Addr) (ci : Nat) (wr : World) : Prop where
  nl : L1 W0 d.an d.n d.cn 1 (FS i) qn an cn wr
  il : L1 W0 d.ai d.m d.ci 5 (FV i) qi ai ci wr
  ap : ∀ b, (blkOf d.an b ∨ blkOf an b) → ¬ (blkOf d.ai b ∨ blkOf ai b)
  lt : ∀ b, (d.bl b ∨ blkOf an b ∨ blkOf ai b) → b < wr.heap.size
theorem Gr.keep {W0 : Nat} {d : Nd} {i qi qn : Nat} {an : Option Addr} {cn : Nat} {ai : Option Addr} {ci : Nat} {wr w' : World} (h : Gr W0 d i qi qn an cn ai ci wr) (hs : wr.heap.size ≤ w'.heap.size) (hk : ∀ b, (d.bl b ∨ blkOf an b ∨ blkOf ai b) → w'.heap[b]? = wr.heap[b]?) : Gr W0 d i qi qn an cn ai ci w' :=
  ⟨h.nl.keep hs (fun b hb _ => hk b (hb.elim (fun e => .inl (.inl e)) (fun e => .inr (.inl e)))), h.il.keep hs (fun b hb _ => hk b (hb.elim (fun e => .inl (.inr e)) (fun e => .inr (.inr e)))), h.ap, fun b hb => Nat.lt_of_lt_of_le (h.lt b hb) hs⟩
theorem Gr.weak {W0 W1 : Nat} {d : Nd} {i qi qn : Nat} {an : Option Addr} {cn : Nat} {ai : Option Addr} {ci : Nat} {wr : World} (h : Gr W1 d i qi qn an cn ai ci wr) (hw : W0 ≤ W1) : Gr W0 d i qi qn an cn ai ci wr := ⟨h.nl.weak hw, h.il.weak hw, h.ap, h.lt⟩
/-- Where the lists of the grown value lie. -/
theorem Gr.where_ {W0 : Nat} {d : Nd} {i qi qn : Nat} {an : Option Addr} {cn : Nat} {ai : Option Addr} {ci : Nat} {wr : World} (h : Gr W0 d i qi qn an cn ai ci wr) : ∀ b, (blkOf an b ∨ blkOf ai b) → d.bl b ∨ W0 ≤ b := fun b hb => by
  rcases hb with hb | hb
  · rcases h.nl.pos with ⟨e, -⟩ | ⟨g, e, hg, -⟩
    · rw [e] at hb; exact .inl (.inl hb)
    · rw [e, blk_some] at hb; exact .inr (by omega)
  · rcases h.il.pos with ⟨e, -⟩ | ⟨g, e, hg, -⟩
    · rw [e] at hb; exact .inl (.inr hb)
    · rw [e, blk_some] at hb; exact .inr (by omega)
theorem gr_start {S : Nat → Prop} {W0 : Nat} {nds : List Nd} {d : Nd} {i : Nat} {wr : World} (hN : Nds S W0 nds) (hd : nds[i]? = some d) (hW : W0 ≤ wr.heap.size) (h : RwN wr d (FS i d.n) (FV i d.m)) : Gr wr.heap.size d i 0 0 d.an d.cn d.ai d.ci wr :=
  ⟨⟨h.1, h.1, .inl ⟨rfl, rfl⟩⟩, ⟨h.2, h.2, .inl ⟨rfl, rfl⟩⟩, fun b hb hb' => hN.two i d b hd (hb.elim id id) (hb'.elim id id), fun b hb => Nat.lt_of_lt_of_le (hN.bk i d b hd (hb.elim id (fun e => e.elim (fun e => .inl e) (fun e => .inr e)))).2 hW⟩
theorem Gr.item {S : Nat → Prop} {W0 W1 : Nat} {nds : List Nd} {d : Nd} {i qi qn : Nat} {an : Option Addr} {cn : Nat} {ai : Option Addr} {ci : Nat} {wr w2 : World} {zs : List Value} {g of c' : Nat} (hN : Nds S W0 nds) (hd : nds[i]? = some d) (hWW : W0 ≤ W1) (h : Gr W1 d i qi qn an cn ai ci wr) (hW : W1 ≤ wr.heap.size)
    (hz : Rw wr 0 5 ai (d.m + qi) ci zs) (hF : FV i (d.m + qi) zs) (hA : Appd wr 0 5 ai (d.m + qi) 1 ci (zs ++ [.int .i64 0, .int .i64 i, .string ⟨#[]⟩, .slice none 0 0, .slice none 0 0]) g of c' w2) : of = 0 ∧ Gr W1 d i (qi + 1) qn an cn (some ⟨g, 0, none⟩) c' w2 := by
  obtain ⟨rfl, hl⟩ := L1.grow (fst_v i) h.il hW (hN.zi i d hd) (fun b hb => by have := (hN.bk i d b hd (.inr hb)).2; omega) hz hF hA
  have hg : blkOf ai g ∨ g = wr.heap.size := by
    rcases hA.at' with ⟨e, -⟩ | ⟨e, -⟩
    · exact .inl ⟨0, none, e⟩
    · exact .inr e
  refine ⟨rfl, h.nl.keep hA.fr.size (fun b hb hlt => hA.fr.block b hlt (fun hx => h.ap b hb (.inr hx.1))), hl, fun b hb hb' => ?_, fun b hb => ?_⟩
  · rcases hb' with hb' | hb'
    · exact h.ap b hb (.inl hb')
    · rw [blk_some] at hb'
      subst hb'
      rcases hg with hg | hg
      · exact h.ap _ hb (.inr hg)
      · have := h.lt b (hb.elim (fun e => .inl (.inl e)) (fun e => .inr (.inl e)))
        omega
  · rcases hb with hb | hb | hb
    · exact Nat.lt_of_lt_of_le (h.lt b (.inl hb)) hA.fr.size
    · exact Nat.lt_of_lt_of_le (h.lt b (.inr (.inl hb))) hA.fr.size
    · rw [blk_some] at hb
      rw [hb]
      exact hA.lt
theorem Gr.name {S : Nat → Prop} {W0 W1 : Nat} {nds : List Nd} {d : Nd} {i qi qn : Nat} {an : Option Addr} {cn : Nat} {ai : Option Addr} {ci : Nat} {wr w2 : World} {ys : List Value} {g of c' : Nat} (hN : Nds S W0 nds) (hd : nds[i]? = some d) (hWW : W0 ≤ W1) (h : Gr W1 d i qi qn an cn ai ci wr) (hW : W1 ≤ wr.heap.size)
    (hz : Rw wr 0 1 an (d.n + qn) cn ys) (hF : FS i (d.n + qn) ys) (hA : Appd wr 0 1 an (d.n + qn) 1 cn (ys ++ [.string (dig i)]) g of c' w2) : of = 0 ∧ Gr W1 d i qi (qn + 1) (some ⟨g, 0, none⟩) c' ai ci w2 := by
  obtain ⟨rfl, hl⟩ := L1.grow (fst_s i) h.nl hW (hN.za i d hd) (fun b hb => by have := (hN.bk i d b hd (.inl hb)).2; omega) hz hF hA
  have hg : blkOf an g ∨ g = wr.heap.size := by
    rcases hA.at' with ⟨e, -⟩ | ⟨e, -⟩
    · exact .inl ⟨0, none, e⟩
    · exact .inr e
  refine ⟨rfl, hl, h.il.keep hA.fr.size (fun b hb hlt => hA.fr.block b hlt (fun hx => h.ap b (.inr hx.1) hb)), fun b hb hb' => ?_, fun b hb => ?_⟩
  · rcases hb with hb | hb
    · exact h.ap b (.inl hb) hb'
    · rw [blk_some] at hb
      subst hb
      rcases hg with hg | hg
      · exact h.ap _ (.inr hg) hb'
      · have := h.lt b (hb'.elim (fun e => .inl (.inr e)) (fun e => .inr (.inr e)))
        omega
  · rcases hb with hb | hb | hb
    · exact Nat.lt_of_lt_of_le (h.lt b (.inl hb)) hA.fr.size
    · rw [blk_some] at hb
      rw [hb]
      exact hA.lt
    · exact Nat.lt_of_lt_of_le (h.lt b (.inr (.inr hb))) hA.fr.size
/-- Within a round of the second loop. -/
structure In (X : World) (d : Nd) (i bg qi qn : Nat) (an : Option Addr) (cn : Nat) (ai : Option Addr) (ci : Nat) (wr : World) : Prop where
  fr : Fr (fun b => d.bl b) X wr
  gr : Gr X.heap.size d i qi qn an cn ai ci wr
  box : wr.heap[bg]? = some (.cells #[.int .i64 0, .int .i64 0, .string ⟨#[]⟩, .slice an (d.n + qn) cn, .slice ai (d.m + qi) ci] 25 (0, 0))
  bx : ∀ b, blkOf an b ∨ blkOf ai b → b ≠ bg
  xb : X.heap.size ≤ bg
theorem In.below {X : World} {d : Nd} {i bg qi qn : Nat} {an : Option Addr} {cn : Nat} {ai : Option Addr} {ci : Nat} {wr w' : World} (h : In X d i bg qi qn an cn ai ci wr) (hb : Below wr.heap.size wr w') : In X d i bg qi qn an cn ai ci w' :=
  ⟨h.fr.next (Fr.of_below (S := fun _ => False) hb) (fun _ e => e.elim), h.gr.keep hb.size (fun b hb' => hb.block b (h.gr.lt b hb')), (hb.block _ (Array.getElem?_eq_some_iff.1 h.box).1).trans h.box, h.bx, h.xb⟩
theorem In.item {S : Nat → Prop} {W0 : Nat} {nds : List Nd} {X : World} {d : Nd} {i bg qi qn : Nat} {an : Option Addr} {cn : Nat} {ai : Option Addr} {ci : Nat} {wr w2 : World} {zs : List Value} {g of c' : Nat} (hN : Nds S W0 nds) (hd : nds[i]? = some d) (hWW : W0 ≤ X.heap.size) (h : In X d i bg qi qn an cn ai ci wr)
    (hz : Rw wr 0 5 ai (d.m + qi) ci zs) (hF : FV i (d.m + qi) zs) (hA : Appd wr 0 5 ai (d.m + qi) 1 ci (zs ++ [.int .i64 0, .int .i64 i, .string ⟨#[]⟩, .slice none 0 0, .slice none 0 0]) g of c' w2) :
    of = 0 ∧ w2.heap[bg]? = some (.cells #[.int .i64 0, .int .i64 0, .string ⟨#[]⟩, .slice an (d.n + qn) cn, .slice ai (d.m + qi) ci] 25 (0, 0)) ∧ In X d i bg (qi + 1) qn an cn (some ⟨g, 0, none⟩) c' (w2.setCell ⟨bg, 4, none⟩ (.slice (some ⟨g, 0, none⟩) (d.m + qi + 1) c')) := by
  obtain ⟨rfl, hg⟩ := h.gr.item hN hd hWW h.fr.size hz hF hA
  have hlt := (Array.getElem?_eq_some_iff.1 h.box).1
  have hbox := (hA.fr.block bg hlt (fun hx => h.bx bg (.inr hx.1) rfl)).trans h.box
  have hgb : g ≠ bg := by
    rcases hA.at' with ⟨e, -⟩ | ⟨e, -⟩
    · exact h.bx g (.inr ⟨0, none, e⟩)
    · omega
  have hbx : ∀ b, blkOf an b ∨ blkOf (some ⟨g, 0, none⟩) b → b ≠ bg := fun b hb => by
    rcases hb with hb | hb
    · exact h.bx b (.inl hb)
    · rw [blk_some] at hb; rw [hb]; exact hgb
  have hdb : ∀ b, d.bl b → b ≠ bg := fun b hb e => by
    have := (hN.bk i d b hd hb).2
    have := h.xb
    omega
  refine ⟨rfl, hbox, ⟨?_, ?_, ?_, hbx, h.xb⟩⟩
  · refine (h.fr.next hA.fr (fun b hb => ?_)).set _ _ (.inr h.xb)
    rcases h.gr.where_ b (.inr hb.1) with h1 | h1
    · exact .inl h1
    · exact .inr h1
  · refine hg.keep (by simp [World.setCell]) (fun b hb => Below.heap_setCell _ _ _ _ ?_)
    rcases hb with hb | hb
    · exact hdb b hb
    · exact hbx b hb
  · simp [World.setCell, Array.getElem?_modify, hbox, Nat.add_assoc]
theorem In.name {S : Nat → Prop} {W0 : Nat} {nds : List Nd} {X : World} {d : Nd} {i bg qi qn : Nat} {an : Option Addr} {cn : Nat} {ai : Option Addr} {ci : Nat} {wr w2 : World} {ys : List Value} {g of c' : Nat} (hN : Nds S W0 nds) (hd : nds[i]? = some d) (hWW : W0 ≤ X.heap.size) (h : In X d i bg qi qn an cn ai ci wr)
    (hz : Rw wr 0 1 an (d.n + qn) cn ys) (hF : FS i (d.n + qn) ys) (hA : Appd wr 0 1 an (d.n + qn) 1 cn (ys ++ [.string (dig i)]) g of c' w2) :
    of = 0 ∧ w2.heap[bg]? = some (.cells #[.int .i64 0, .int .i64 0, .string ⟨#[]⟩, .slice an (d.n + qn) cn, .slice ai (d.m + qi) ci] 25 (0, 0)) ∧ In X d i bg qi (qn + 1) (some ⟨g, 0, none⟩) c' ai ci (w2.setCell ⟨bg, 3, none⟩ (.slice (some ⟨g, 0, none⟩) (d.n + qn + 1) c')) := by
  obtain ⟨rfl, hg⟩ := h.gr.name hN hd hWW h.fr.size hz hF hA
  have hlt := (Array.getElem?_eq_some_iff.1 h.box).1
  have hbox := (hA.fr.block bg hlt (fun hx => h.bx bg (.inl hx.1) rfl)).trans h.box
  have hgb : g ≠ bg := by
    rcases hA.at' with ⟨e, -⟩ | ⟨e, -⟩
    · exact h.bx g (.inl ⟨0, none, e⟩)
    · omega
  have hbx : ∀ b, blkOf (some ⟨g, 0, none⟩) b ∨ blkOf ai b → b ≠ bg := fun b hb => by
    rcases hb with hb | hb
    · rw [blk_some] at hb; rw [hb]; exact hgb
    · exact h.bx b (.inr hb)
  have hdb : ∀ b, d.bl b → b ≠ bg := fun b hb e => by
    have := (hN.bk i d b hd hb).2
    have := h.xb
    omega
  refine ⟨rfl, hbox, ⟨?_, ?_, ?_, hbx, h.xb⟩⟩
  · refine (h.fr.next hA.fr (fun b hb => ?_)).set _ _ (.inr h.xb)
    rcases h.gr.where_ b (.inl hb.1) with h1 | h1
    · exact .inl h1
    · exact .inr h1
  · refine hg.keep (by simp [World.setCell]) (fun b hb => Below.heap_setCell _ _ _ _ ?_)
    rcases hb with hb | hb
    · exact hdb b hb
    · exact hbx b hb
  · simp [World.setCell, Array.getElem?_modify, hbox, Nat.add_assoc]
/-- The second loop: all values ahead of i are grown. -/
structure Bo (S : Nat → Prop) (w : World) (nds : List Nd) (gl cl i : Nat) (ga : Option Addr) (gc : Nat) (cells : List Value) (wr : World) : Prop where
  fr : Fr S w wr
  row : Rw wr w.heap.size 5 (some ⟨gl, 0, none⟩) nds.length cl (flatN nds)
  hi : ∀ (j : Nat) (e : Nd), nds[j]? = some e → i ≤ j → RwN wr e (FS j e.n) (FV j e.m)
  lo : ∀ (j : Nat) (e : Nd), nds[j]? = some e → j < i → ∃ an cn ai ci, cells[j * 5 + 3]? = some (.slice an (e.n + 16) cn) ∧ cells[j * 5 + 4]? = some (.slice ai (e.m + 16) ci) ∧ Gr w.heap.size e j 16 16 an cn ai ci wr ∧ ∀ b, (blkOf an b ∨ blkOf ai b) → ¬ blkOf ga b
  g : Rw wr w.heap.size 5 ga i gc cells
  gx : ∀ b, blkOf ga b → w.heap.size ≤ b ∧ b < wr.heap.size ∧ b ≠ gl
  gz : ga = none ∨ ∃ g, ga = some ⟨g, 0, none⟩
  glx : w.heap.size ≤ gl ∧ gl < wr.heap.size
/-- What a round leaves alone. -/
theorem Bo.round {S : Nat → Prop} {w : World} {nds : List Nd} {gl cl i : Nat} {ga : Option Addr} {gc : Nat} {cells : List Value} {X w' w2 : World} {d : Nd} {bg : Nat} {an : Option Addr} {cn : Nat} {ai : Option Addr} {ci : Nat} {g of c' : Nat} (hN : Nds S w.heap.size nds) (hd : nds[i]? = some d) (h : Bo S w nds gl cl i ga gc cells X) (hI : In X d i bg 16 16 an cn ai ci w') (o : Obj)
    (hA : Appd (w'.alloc o) w.heap.size 5 ga i 1 gc (cells ++ [.int .i64 0, .int .i64 0, .string ⟨#[]⟩, .slice an (d.n + 16) cn, .slice ai (d.m + 16) ci]) g of c' w2) : of = 0 ∧ Bo S w nds gl cl (i + 1) (some ⟨g, 0, none⟩) c' (cells ++ [.int .i64 0, .int .i64 0, .string ⟨#[]⟩, .slice an (d.n + 16) cn, .slice ai (d.m + 16) ci]) w2 := by
  have hof : of = 0 := by
    rcases hA.at' with ⟨e, -, -⟩ | ⟨-, e, -⟩
    · rcases h.gz with e' | ⟨g', e'⟩
      · rw [e'] at e; cases e
      · rw [e'] at e; cases e; rfl
    · exact e
  subst hof
  have hX := h.fr.size
  have hXw := hI.fr.size
  have hsa : (w'.alloc o).heap.size = w'.heap.size + 1 := World.size_alloc _ _
  have hs2 := hA.fr.size
  have hcl : cells.length = i * 5 := h.g.len
  -- blocks that are neither the value's own nor the list's
  have far : ∀ b, b < X.heap.size → ¬ d.bl b → ¬ blkOf ga b → w2.heap[b]? = X.heap[b]? := fun b hb h1 h2 =>
    (hA.fr.block b (by omega) (fun hx => h2 hx.1)).trans ((Below.heap_alloc w' o b (by omega)).trans (hI.fr.block b hb h1))
  have near : ∀ b, b < w'.heap.size → ¬ blkOf ga b → w2.heap[b]? = w'.heap[b]? := fun b hb h2 =>
    (hA.fr.block b (by omega) (fun hx => h2 hx.1)).trans (Below.heap_alloc w' o b hb)
  have dlt : ∀ b, d.bl b → b < w.heap.size := fun b hb => (hN.bk i d b hd hb).2
  have gng : ∀ b, b < w.heap.size → ¬ blkOf ga b := fun b hb hx => by have := (h.gx b hx).1; omega
  have hgn : (ga = some ⟨g, 0, none⟩) ∨ g = w'.heap.size + 1 := by
    rcases hA.at' with ⟨e, -⟩ | ⟨e, -⟩
    · exact .inl e
    · exact .inr (by rw [← hsa]; exact e)
  have curb : ∀ b, (blkOf an b ∨ blkOf ai b) → ¬ blkOf ga b ∧ b < w'.heap.size := fun b hb => by
    refine ⟨fun hx => ?_, hI.gr.lt b (.inr hb)⟩
    have h3 := h.gx b hx
    rcases hI.gr.where_ b hb with h1 | h1
    · have := dlt b h1; omega
    · omega
  refine ⟨rfl, ⟨?_, ?_, ?_, ?_, hA.row, ?_, .inr ⟨g, rfl⟩, ⟨h.glx.1, by have := h.glx.2; omega⟩⟩⟩
  · refine ((h.fr.next hI.fr (fun b hb => .inl (hN.bk i d b hd hb).1)).alloc o).next hA.fr (fun b hb => .inr (h.gx b hb.1).1)
  · refine h.row.keep (by omega) (fun b hb hl => ?_)
    rw [blk_some] at hb
    subst hb
    exact far _ hl (fun hx => by have := dlt _ hx; have := h.glx.1; omega) (fun hx => (h.gx _ hx).2.2 rfl)
  · intro j e he hj
    refine (h.hi j e he (by omega)).keep (by omega) (fun b hb hl => far b hl (fun hx => ?_) (gng b (hN.bk j e b he hb).2))
    have := hN.one j i e d b he hd hb hx
    omega
  · intro j e he hj
    by_cases hji : j < i
    · obtain ⟨an', cn', ai', ci', l1, l2, l3, l4⟩ := h.lo j e he hji
      refine ⟨an', cn', ai', ci', ?_, ?_, l3.keep (by omega) (fun b hb => ?_), fun b hb hx => ?_⟩
      · rw [List.getElem?_append_left (by omega)]; exact l1
      · rw [List.getElem?_append_left (by omega)]; exact l2
      · refine far b (l3.lt b hb) (fun hx => ?_) (fun hx => ?_)
        · rcases hb with hb | hb
          · have := hN.one j i e d b he hd hb hx; omega
          · rcases l3.where_ b hb with h1 | h1
            · have := hN.one j i e d b he hd h1 hx; omega
            · have := dlt b hx; omega
        · rcases hb with hb | hb
          · exact gng b (hN.bk j e b he hb).2 hx
          · exact l4 b hb hx
      · rw [blk_some] at hx
        subst hx
        rcases hgn with h1 | h1
        · exact l4 b hb (by rw [h1]; exact blk_some.2 rfl)
        · have := l3.lt b (.inr hb); omega
    · have : j = i := by omega
      subst this
      rw [he] at hd
      cases hd
      refine ⟨an, cn, ai, ci, ?_, ?_, (hI.gr.weak hX).keep (by omega) (fun b hb => ?_), fun b hb hx => ?_⟩
      · rw [List.getElem?_append_right (by omega), show j * 5 + 3 - cells.length = 3 by omega]; rfl
      · rw [List.getElem?_append_right (by omega), show j * 5 + 4 - cells.length = 4 by omega]; rfl
      · refine near b (hI.gr.lt b hb) (fun hx => ?_)
        rcases hb with hb | hb
        · exact gng b (dlt b hb) hx
        · exact (curb b hb).1 hx
      · rw [blk_some] at hx
        subst hx
        rcases hgn with h1 | h1
        · exact (curb b hb).1 (by rw [h1]; exact blk_some.2 rfl)
        · have := (curb b hb).2; omega
  · intro b hb
    rw [blk_some] at hb
    subst hb
    rcases hgn with h1 | h1
    · have := h.gx b (by rw [h1]; exact blk_some.2 rfl)
      exact ⟨this.1, hA.lt, this.2.2⟩
    · have := h.glx.2
      exact ⟨by omega, hA.lt, by omega⟩
theorem Bo.grow_row {S : Nat → Prop} {w : World} {nds : List Nd} {gl cl i : Nat} {ga : Option Addr} {gc : Nat} {cells : List Value} {X w' : World} {d : Nd} {bg qi qn : Nat} {an : Option Addr} {cn : Nat} {ai : Option Addr} {ci : Nat} (h : Bo S w nds gl cl i ga gc cells X) (hN : Nds S w.heap.size nds) (hd : nds[i]? = some d) (hI : In X d i bg qi qn an cn ai ci w') (o : Obj) : Rw (w'.alloc o) w.heap.size 5 ga i gc cells := by
  have hs := hI.fr.size
  refine h.g.keep (by rw [World.size_alloc]; omega) (fun b hb hl => (Below.heap_alloc w' o b (by omega)).trans (hI.fr.block b hl (fun hx => ?_)))
  have := (h.gx b hb).1
  have := (hN.bk i d b hd hx).2
  omega
theorem rw_read {w : World} {lo size n c : Nat} {a : Option Addr} {xs : List Value} (h : Rw w lo size a n c xs) (hz : a = none ∨ ∃ g, a = some ⟨g, 0, none⟩) {j : Nat} {u : Value} (hj : xs[j]? = some u) : ∃ b, a = some ⟨b, 0, none⟩ ∧ w.cell? ⟨b, j, none⟩ = some u := by
  obtain ⟨b, o, e, -, h2⟩ := h.cell hj
  rcases hz with e' | ⟨g, e'⟩
  · rw [e'] at e; cases e
  · rw [e'] at e
    cases e
    exact ⟨_, e', by rwa [Nat.zero_add] at h2⟩
theorem Gr.itemAt {S : Nat → Prop} {W0 W1 : Nat} {nds : List Nd} {d : Nd} {i qi qn : Nat} {an : Option Addr} {cn : Nat} {ai : Option Addr} {ci : Nat} {wr : World} (hN : Nds S W0 nds) (hd : nds[i]? = some d) (h : Gr W1 d i qi qn an cn ai ci wr) : (∀ k, k < d.m + qi → ∃ b, ai = some ⟨b, 0, none⟩ ∧ wr.cell? ⟨b, k * 5 + 1, none⟩ = some (.int .i64 i)) ∧ ∀ k, k < d.m → ∃ b, d.ai = some ⟨b, 0, none⟩ ∧ wr.cell? ⟨b, k * 5 + 1, none⟩ = some (.int .i64 i) := by
  obtain ⟨ys, h1, h2⟩ := h.il.new
  obtain ⟨zs, h3, h4⟩ := h.il.old
  exact ⟨fun k hk => rw_read h1 (h.il.zero (hN.zi i d hd)) (h2 k hk), fun k hk => rw_read h3 (hN.zi i d hd) (h4 k hk)⟩
theorem Gr.nameAt {S : Nat → Prop} {W0 W1 : Nat} {nds : List Nd} {d : Nd} {i qi qn : Nat} {an : Option Addr} {cn : Nat} {ai : Option Addr} {ci : Nat} {wr : World} (hN : Nds S W0 nds) (hd : nds[i]? = some d) (h : Gr W1 d i qi qn an cn ai ci wr) : (∀ k, k < d.n + qn → ∃ b, an = some ⟨b, 0, none⟩ ∧ wr.cell? ⟨b, k, none⟩ = some (.string (dig i))) ∧ ∀ k, k < d.n → ∃ b, d.an = some ⟨b, 0, none⟩ ∧ wr.cell? ⟨b, k, none⟩ = some (.string (dig i)) := by
  obtain ⟨ys, h1, h2⟩ := h.nl.new
  obtain ⟨zs, h3, h4⟩ := h.nl.old
  exact ⟨fun k hk => rw_read h1 (h.nl.zero (hN.za i d hd)) (h2 k hk), fun k hk => rw_read h3 (hN.za i d hd) (h4 k hk)⟩
theorem k_quiet_if {c : Bool} {p q : Prop} (h : c = true) (hp : p) : if c = true then p else q := by rw [if_pos h]; exact hp
theorem k_quiet_else {c : Bool} {p q : Prop} (h : c = false) (hq : q) : if c = true then p else q := by rw [if_neg (by simp [h])]; exact hq
end Go.Proofs.YtnccaidlcaeeaaaGreatDoor.Tree
