import Derived.Test.YtnccaidlcaeeaaaGreatDoorW6
namespace Go.Proofs.YtnccaidlcaeeaaaGreatDoor
open Go Go.RowKit

theorem RepL.keep2 {w w' : World} {lo hi : Nat} {obs : List Nat} : (l : List J) → (xs : List Value) → RepL w lo hi obs l xs → (∀ k, lo ≤ k → k < hi → k ∉ obs → w'.heap[k]? = w.heap[k]?) → RepL w' lo hi obs l xs
  | [], _, h, _ => h
  | j :: js, xs, h, hk => by
    unfold RepL at *
    obtain ⟨lo', hi', h1, h2, h3, h4, h5, h6, h7⟩ := h
    exact ⟨lo', hi', h1, h2, h3, h4, h5, Rep.keep j _ h6 (fun k a b => hk k (by omega) (by omega) (fun hm => h4 k hm ⟨a, b⟩)), RepL.keep2 js _ h7 (fun k a b => hk k (by omega) b)⟩
/-- Other blocks are shut out: each is one of the elder ones, or lies beyond. -/
theorem RepL.obs {w : World} {lo hi : Nat} {obs obs' : List Nat} : (l : List J) → (xs : List Value) → RepL w lo hi obs l xs → (∀ g, g ∈ obs' → g ∈ obs ∨ hi ≤ g) → RepL w lo hi obs' l xs
  | [], _, h, _ => h
  | j :: js, xs, h, hk => by
    unfold RepL at *
    obtain ⟨lo', hi', h1, h2, h3, h4, h5, h6, h7⟩ := h
    exact ⟨lo', hi', h1, h2, h3, fun g hg hin => (hk g hg).elim (fun h => h4 g h hin) (fun h => by omega), h5, h6, RepL.obs js _ h7 hk⟩
theorem RepL.snoc {w : World} {hi lo2 hi2 : Nat} {obs : List Nat} {j : J} {cs : List Value} (h2 : hi ≤ lo2) (h3 : lo2 ≤ hi2) (hob : ∀ g, g ∈ obs → ¬ (lo2 ≤ g ∧ g < hi2)) (hr : Rep w lo2 hi2 j cs) (hc : cs.length = 5) :
    (lo : Nat) → lo ≤ hi → (l : List J) → (xs : List Value) → RepL w lo hi obs l xs → RepL w lo hi2 obs (l ++ [j]) (xs ++ cs)
  | lo, hlo, [], xs, h => by
    unfold RepL at h
    subst h
    simp only [List.nil_append]
    unfold RepL
    exact ⟨lo2, hi2, by omega, h3, Nat.le_refl _, hob, by omega, by rw [List.take_of_length_le (by omega)]; exact hr, by unfold RepL; exact List.drop_of_length_le (by omega)⟩
  | lo, hlo, i :: js, xs, h => by
    unfold RepL at h
    obtain ⟨lo', hi', a1, a2, a3, a4, a5, a6, a7⟩ := h
    simp only [List.cons_append]
    unfold RepL
    refine ⟨lo', hi', a1, a2, by omega, a4, by rw [List.length_append]; omega, ?_, ?_⟩
    · rw [List.take_append_of_le_length a5]; exact a6
    · rw [List.drop_append_of_le_length a5]; exact RepL.snoc h2 h3 hob hr hc hi' a3 js _ a7
theorem RepL.up {w : World} {lo hi hi2 : Nat} {obs : List Nat} : (l : List J) → (xs : List Value) → RepL w lo hi obs l xs → hi ≤ hi2 → RepL w lo hi2 obs l xs
  | [], _, h, _ => h
  | j :: js, xs, h, hk => by
    unfold RepL at *
    obtain ⟨lo', hi', h1, h2, h3, h4, h5, h6, h7⟩ := h
    exact ⟨lo', hi', h1, h2, by omega, h4, h5, h6, RepL.up js _ h7 hk⟩
theorem set_five (xs zs : List Value) (p : Nat) (a0 a1 a2 a3 a4 z0 z1 z2 z3 z4 : Value) (h : xs.length = p) (hz : zs = [z0, z1, z2, z3, z4]) :
    (((((xs ++ zs).set p a0).set (p + 1) a1).set (p + 2) a2).set (p + 3) a3).set (p + 4) a4 = xs ++ [a0, a1, a2, a3, a4] := by
  subst h hz
  simp [List.set_append_right]

def zer : List Value := [.int .i64 0, .int .i64 0, .string noS, nilS, nilS]
theorem zer1 : ∀ u ∈ zer, u.oneCell' = true := by decide
def put5 (w : World) (g p : Nat) (a0 a1 a2 a3 a4 : Value) : World := ((((w.setCell ⟨g, p, none⟩ a0).setCell ⟨g, p + 1, none⟩ a1).setCell ⟨g, p + 2, none⟩ a2).setCell ⟨g, p + 3, none⟩ a3).setCell ⟨g, p + 4, none⟩ a4
theorem put5_own {w : World} {B g cap n p : Nat} {xs : List Value} (h : w.ownsRow B 25 5 (.slice (some ⟨g, 0, none⟩) n cap) n (xs ++ zer)) (hx : xs.length = p) (a0 a1 a2 a3 a4 : Value) :
    (put5 w g p a0 a1 a2 a3 a4).ownsRow B 25 5 (.slice (some ⟨g, 0, none⟩) n cap) n (xs ++ [a0, a1, a2, a3, a4]) := by
  have := (((((h.stored p a0).1.stored (p + 1) a1).1.stored (p + 2) a2).1.stored (p + 3) a3).1.stored (p + 4) a4).1
  rw [set_five xs zer p a0 a1 a2 a3 a4 _ _ _ _ _ hx rfl] at this
  exact this
theorem put5_far {w : World} {g p : Nat} (a0 a1 a2 a3 a4 : Value) {k : Nat} (hk : k ≠ g) : (put5 w g p a0 a1 a2 a3 a4).heap[k]? = w.heap[k]? := by
  unfold put5
  rw [Below.heap_setCell _ _ _ _ hk, Below.heap_setCell _ _ _ _ hk, Below.heap_setCell _ _ _ _ hk, Below.heap_setCell _ _ _ _ hk, Below.heap_setCell _ _ _ _ hk]
theorem put5_size (w : World) (g p : Nat) (a0 a1 a2 a3 a4 : Value) : (put5 w g p a0 a1 a2 a3 a4).heap.size = w.heap.size := by simp [put5, World.setCell]
theorem putv {w : World} {bv : Nat} {c0 c1 c2 c3 c4 : Value} (h : w.heap[bv]? = some (.cells #[c0, c1, c2, c3, c4] 25 (0, 0))) (v : Value) : (w.setCell ⟨bv, 4, none⟩ v).heap[bv]? = some (.cells #[c0, c1, c2, c3, v] 25 (0, 0)) := by
  simp [World.setCell, Array.getElem?_modify, h]

theorem set_os (w : World) (p : Addr) (u : Value) : (w.setCell p u).os = w.os := rfl
theorem set_tape (w : World) (p : Addr) (u : Value) : (w.setCell p u).tape = w.tape := rfl
theorem set_out (w : World) (p : Addr) (u : Value) : (w.setCell p u).output = w.output := rfl
theorem put5_os (w : World) (g p : Nat) (a0 a1 a2 a3 a4 : Value) : (put5 w g p a0 a1 a2 a3 a4).os = w.os := by unfold put5; rw [set_os, set_os, set_os, set_os, set_os]
theorem put5_tape (w : World) (g p : Nat) (a0 a1 a2 a3 a4 : Value) : (put5 w g p a0 a1 a2 a3 a4).tape = w.tape := by unfold put5; rw [set_tape, set_tape, set_tape, set_tape, set_tape]
theorem put5_out (w : World) (g p : Nat) (a0 a1 a2 a3 a4 : Value) : (put5 w g p a0 a1 a2 a3 a4).output = w.output := by unfold put5; rw [set_out, set_out, set_out, set_out, set_out]

/-- The items of the list or object that is being read: its variable v at block bv (its first cell c0, its Names c3); av: the blocks that are not theirs. -/
def ItemsInv (base bv : Nat) (c0 c3 : Value) (av : List Nat) (l : List J) (w : World) : Prop :=
  ∃ ao cap xs, w.heap[bv]? = some (.cells #[c0, .int .i64 0, .string noS, c3, .slice ao l.length cap] 25 (0, 0)) ∧ w.ownsRow base 25 5 (.slice ao l.length cap) l.length xs ∧
    (∀ g, (Value.slice ao l.length cap).ownBlock = some g → g ∉ av) ∧ RepL w base w.heap.size (av ++ (Value.slice ao l.length cap).ownBlock.toList) l xs

/-- From the walk's last world to the relation: X is the world of the append, w3 the one behind it, W the one behind the stores, in either order. -/
theorem items_fin {base b bv n' : Nat} {T : ByteArray} {c0 c3 : Value} {av : List Nat} {w w2 X w3 W : World} {l : List J} {ao : Option Addr} {cap : Nat} {xs : List Value} {j : J} {g cap3 loJ : Nat} {kd x : Int} {s : ByteArray} {nm it : Value}
    (hba : base ≤ w.heap.size) (hbb : b < base) (hav : ∀ k, k ∈ av → k < w.heap.size) (hvav : bv ∈ av) (hbav : b ∈ av) (hbne : b ≠ bv)
    (hbv : w.heap[bv]? = some (.cells #[c0, .int .i64 0, .string noS, c3, .slice ao l.length cap] 25 (0, 0)))
    (hown : w.ownsRow base 25 5 (.slice ao l.length cap) l.length xs) (hne : ∀ g, (Value.slice ao l.length cap).ownBlock = some g → g ∉ av)
    (hrep : RepL w base w.heap.size (av ++ (Value.slice ao l.length cap).ownBlock.toList) l xs)
    (hA2 : At b T n' w2) (hrep2 : Rep w2 loJ w2.heap.size j (five kd x s nm it)) (hlo : w.heap.size ≤ loJ) (hlo2 : loJ ≤ w2.heap.size)
    (x1 : ∀ k, k < w.heap.size → k ≠ b → X.heap[k]? = w.heap[k]?) (x2 : w2.heap.size ≤ X.heap.size) (x3 : ∀ k, k < w2.heap.size → X.heap[k]? = w2.heap[k]?)
    (xo : X.os = w.os) (xt : X.tape = w.tape) (xp : X.output = w.output)
    (hgrow : X.grownBy w3 (Value.slice ao l.length cap).ownBlock) (hat : (Value.slice ao l.length cap).ownBlock = some g ∨ g = X.heap.size)
    (hown3 : w3.ownsRow base 25 5 (.slice (some ⟨g, 0, none⟩) (l.length + 1) cap3) (l.length + 1) (xs ++ zer))
    (hW : W = (put5 w3 g (l.length * 5) (.int .i64 kd) (.int .i64 x) (.string s) nm it).setCell ⟨bv, 4, none⟩ (.slice (some ⟨g, 0, none⟩) (l.length + 1) cap3) ∨
      W = put5 (w3.setCell ⟨bv, 4, none⟩ (.slice (some ⟨g, 0, none⟩) (l.length + 1) cap3)) g (l.length * 5) (.int .i64 kd) (.int .i64 x) (.string s) nm it) :
    ItemsInv base bv c0 c3 av (l ++ [j]) W ∧ At b T n' W ∧ W.os = w.os ∧ W.tape = w.tape ∧ W.output = w.output ∧ w.heap.size ≤ W.heap.size ∧
      ∀ k, k < w.heap.size → k ≠ b → k ≠ bv → (∀ g0, (Value.slice ao l.length cap).ownBlock = some g0 → k ≠ g0) → W.heap[k]? = w.heap[k]? := by
  have hx : xs.length = l.length * 5 := hown.1
  have lo4 := hav bv hvav
  have hgav : g ∉ av := by
    rcases hat with h | h
    · exact hne g h
    · intro hm; have := hav g hm; omega
  have hgv : bv ≠ g := fun e => hgav (e ▸ hvav)
  have hgb : b ≠ g := fun e => hgav (e ▸ hbav)
  have hw2 : w.heap.size ≤ w2.heap.size := by omega
  have hbv3 : w3.heap[bv]? = w.heap[bv]? := (hgrow.block bv (by omega) (fun h => hne bv h.symm hvav)).trans (x1 bv lo4 (Ne.symm hbne))
  have hfar : ∀ k, k ≠ bv → k ≠ g → W.heap[k]? = w3.heap[k]? := fun k hkb hkg => by
    rcases hW with rfl | rfl
    · rw [Below.heap_setCell _ _ _ _ hkb, put5_far _ _ _ _ _ hkg]
    · rw [put5_far _ _ _ _ _ hkg, Below.heap_setCell _ _ _ _ hkb]
  have hsz : W.heap.size = w3.heap.size := by
    rcases hW with rfl | rfl
    · rw [Kp.sz_set, put5_size]
    · rw [put5_size, Kp.sz_set]
  have hfix : W.os = w3.os ∧ W.tape = w3.tape ∧ W.output = w3.output := by
    rcases hW with h | h
    · rw [h, set_os, set_tape, set_out, put5_os, put5_tape, put5_out]; exact ⟨rfl, rfl, rfl⟩
    · rw [h, put5_os, put5_tape, put5_out, set_os, set_tape, set_out]; exact ⟨rfl, rfl, rfl⟩
  have hblk : ∀ g', (Value.slice (some ⟨g, 0, none⟩) (l.length + 1) cap3).ownBlock = some g' → g' ≠ bv := fun g' hg' => by
    have : g' = g := by simpa [Value.ownBlock] using hg'.symm
    omega
  have hWo : W.ownsRow base 25 5 (.slice (some ⟨g, 0, none⟩) (l.length + 1) cap3) (l.length + 1) (xs ++ five kd x s nm it) := by
    rcases hW with rfl | rfl
    · exact ownsRow_keep (put5_own hown3 hx _ _ _ _ _) (fun g' hg' => Below.heap_setCell _ _ _ _ (hblk g' hg'))
    · exact put5_own (ownsRow_keep hown3 (fun g' hg' => Below.heap_setCell _ _ _ _ (hblk g' hg'))) hx _ _ _ _ _
  have hWv : W.heap[bv]? = some (.cells #[c0, .int .i64 0, .string noS, c3, .slice (some ⟨g, 0, none⟩) (l.length + 1) cap3] 25 (0, 0)) := by
    rcases hW with rfl | rfl
    · exact putv ((put5_far _ _ _ _ _ hgv).trans (hbv3.trans hbv)) _
    · exact (put5_far _ _ _ _ _ hgv).trans (putv (hbv3.trans hbv) _)
  have hs3 := hgrow.size
  have hJW : Rep W loJ w2.heap.size j (five kd x s nm it) := Rep.keep j _ hrep2 (fun k ka kb => by
    have hkg : k ≠ g := by
      rcases hat with h | h
      · have := (ownsRow_ge hown h).2; omega
      · omega
    rw [hfar k (by omega) hkg, hgrow.block k (by omega) (fun h => by have := (ownsRow_ge hown h.symm).2; omega), x3 k kb])
  have hF : ∀ k, k < w.heap.size → k ≠ b → k ≠ bv → (∀ g0, (Value.slice ao l.length cap).ownBlock = some g0 → k ≠ g0) → W.heap[k]? = w.heap[k]? := by
    intro k hk hkb hkv hko
    have hkg : k ≠ g := by
      rcases hat with h | h
      · exact hko g h
      · omega
    rw [hfar k hkv hkg, hgrow.block k (by omega) (fun h => hko k h.symm rfl), x1 k hk hkb]
  refine ⟨⟨some ⟨g, 0, none⟩, cap3, xs ++ five kd x s nm it, ?_, ?_, ?_, ?_⟩, ?_, hfix.1.trans (hgrow.os.trans xo), hfix.2.1.trans (hgrow.tape.trans xt), hfix.2.2.trans (hgrow.output.trans xp), by omega, hF⟩
  · rw [List.length_append]; exact hWv
  · rw [List.length_append]; exact hWo
  · intro g' hg'
    have : g' = g := by simpa [Value.ownBlock] using hg'.symm
    rw [this]; exact hgav
  · have k1 : RepL W base w.heap.size (av ++ (Value.slice ao l.length cap).ownBlock.toList) l xs :=
      RepL.keep2 l xs hrep (fun k ka kb kn => hF k kb (by omega) (fun e => kn (by simp [e, hvav])) (fun g0 h0 e => kn (by simp [h0, e])))
    have k2 : RepL W base w.heap.size (av ++ [g]) l xs := RepL.obs l xs k1 (fun g' hg' => by
      rcases List.mem_append.1 hg' with hg' | hg'
      · exact Or.inl (by simp [hg'])
      · have : g' = g := by simpa using hg'
        subst this
        rcases hat with h | h
        · exact Or.inl (by simp [h])
        · exact Or.inr (by omega))
    have k3 : RepL W base w2.heap.size (av ++ [g]) (l ++ [j]) (xs ++ five kd x s nm it) := RepL.snoc hlo hlo2 (fun g' hg' hin => by
      rcases List.mem_append.1 hg' with hg' | hg'
      · have := hav g' hg'; omega
      · have : g' = g := by simpa using hg'
        subst this
        rcases hat with h | h
        · have := (ownsRow_ge hown h).2; omega
        · omega) hJW rfl base hba l xs k2
    exact RepL.up _ _ k3 (by omega)
  · have hbl := hA2.lt
    unfold At at *
    rw [hfar b hbne hgb, hgrow.block b (by omega) (fun h => hne b h.symm hbav), x3 b hbl]
    exact hA2
end Go.Proofs.YtnccaidlcaeeaaaGreatDoor
namespace Go.Proofs.YtnccaidlcaeeaaaGreatDoor
open Go Go.RowKit

/-- The list that is being read: its variable v at block bv; the reader's and the depth's variables at br, bd. -/
structure ListInv (base b bv br bd : Nat) (d : Int) (w0 wI : World) (l : List J) (w : World) : Prop where
  env : Env w
  kp : Kp b w0 w
  hb : b < w0.heap.size
  hba : w0.heap.size ≤ base ∧ base ≤ w.heap.size
  fx : ∀ k, k < base → k ≠ b → k ≠ bv → w.heap[k]? = wI.heap[k]?
  lo : w0.heap.size ≤ bv ∧ w0.heap.size ≤ br ∧ w0.heap.size ≤ bd ∧ bv < w.heap.size ∧ br < w.heap.size ∧ bd < w.heap.size
  hbr : w.heap[br]? = some (.cells #[.pointer (some ⟨b, 0, none⟩)] 72 (0, 0))
  hbd : w.heap[bd]? = some (.cells #[.int .i64 d] 3 (0, 0))
  val : ItemsInv base bv (.int .i64 5) nilS [bv, br, bd, b] l w

theorem list_close {base b bv br bd : Nat} {d : Int} {w0 wI w W : World} {l : List J} {j : J} {ao : Option Addr} {cap : Nat}
    (hE : Env w) (hK : Kp b w0 w) (hb : b < w0.heap.size) (hba : w0.heap.size ≤ base ∧ base ≤ w.heap.size) (hfx : ∀ k, k < base → k ≠ b → k ≠ bv → w.heap[k]? = wI.heap[k]?) (hb8 : 8 ≤ b) (lo : w0.heap.size ≤ bv ∧ w0.heap.size ≤ br ∧ w0.heap.size ≤ bd ∧ bv < w.heap.size ∧ br < w.heap.size ∧ bd < w.heap.size) (hdis : br ≠ bv ∧ bd ≠ bv)
    (hbr : w.heap[br]? = some (.cells #[.pointer (some ⟨b, 0, none⟩)] 72 (0, 0))) (hbd : w.heap[bd]? = some (.cells #[.int .i64 d] 3 (0, 0)))
    (hge : ∀ g, (Value.slice ao l.length cap).ownBlock = some g → base ≤ g) (hne : ∀ g, (Value.slice ao l.length cap).ownBlock = some g → g ≠ bv ∧ g ≠ br ∧ g ≠ bd ∧ g ≠ b)
    (f1 : ItemsInv base bv (.int .i64 5) nilS [bv, br, bd, b] (l ++ [j]) W) (f3 : W.os = w.os) (f4 : W.tape = w.tape) (f5 : W.output = w.output) (f6 : w.heap.size ≤ W.heap.size)
    (f7 : ∀ k, k < w.heap.size → k ≠ b → k ≠ bv → (∀ g0, (Value.slice ao l.length cap).ownBlock = some g0 → k ≠ g0) → W.heap[k]? = w.heap[k]?) : ListInv base b bv br bd d w0 wI (l ++ [j]) W := by
  obtain ⟨lo1, lo2, lo3, lo4, lo5, lo6⟩ := lo
  have hlow : ∀ k, k < base → k ≠ b → k ≠ bv → W.heap[k]? = w.heap[k]? := fun k hk hkb hkv => f7 k (by omega) hkb hkv (fun g0 hg0 => by have := hge g0 hg0; omega)
  refine ⟨hE.keep (fun k hk => hlow k (by omega) (by omega) (by omega)), ⟨f3.trans hK.os, f4.trans hK.tape, f5.trans hK.output, Nat.le_trans hK.size f6, fun k hk hkb => (hlow k (by omega) hkb (by omega)).trans (hK.block k hk hkb)⟩, hb, ⟨hba.1, by omega⟩, fun k hk hkb hkv => (hlow k hk hkb hkv).trans (hfx k hk hkb hkv), ⟨lo1, lo2, lo3, by omega, by omega, by omega⟩, ?_, ?_, f1⟩
  · rw [f7 br lo5 (by omega) hdis.1 (fun g0 h0 e => (hne g0 h0).2.1 e.symm)]; exact hbr
  · rw [f7 bd lo6 (by omega) hdis.2 (fun g0 h0 e => (hne g0 h0).2.2.1 e.symm)]; exact hbd
end Go.Proofs.YtnccaidlcaeeaaaGreatDoor
namespace Go.Proofs.YtnccaidlcaeeaaaGreatDoor
open Go Go.RowKit

def av6 (b bv br bd bh bm : Nat) : List Nat := [bv, br, bd, b, bh, bm]
/-- The object that is being read: its variable v at block bv; the reader's, the depth's and the set's variables at br, bd, bh; the set itself at bm. -/
structure ObjInv (base b bv br bd bh bm : Nat) (d : Int) (w0 wI : World) (p : List ByteArray × List J) (w : World) : Prop where
  env : Env w
  kp : Kp b w0 w
  hb : b < w0.heap.size
  hba : w0.heap.size ≤ base ∧ base ≤ w.heap.size
  fx : ∀ k, k < base → k ≠ b → k ≠ bv → k ≠ bm → w.heap[k]? = wI.heap[k]?
  hbr : w.heap[br]? = some (.cells #[.pointer (some ⟨b, 0, none⟩)] 72 (0, 0))
  hbd : w.heap[bd]? = some (.cells #[.int .i64 d] 3 (0, 0))
  hbh : w.heap[bh]? = some (.cells #[.map (some bm)] 105 (0, 0))
  set : SetAt bm p.1 w
  eq : p.1.length = p.2.length
  val : ∃ an cn, w.ownsRow base 9 1 (.slice an p.1.length cn) p.1.length (strs p.1) ∧ (∀ g, (Value.slice an p.1.length cn).ownBlock = some g → g ∉ av6 b bv br bd bh bm) ∧
    ItemsInv base bv (.int .i64 6) (.slice an p.1.length cn) (av6 b bv br bd bh bm ++ (Value.slice an p.1.length cn).ownBlock.toList) p.2 w
/-- Where the variables stand. -/
structure ObjLo (base b bv br bd bh bm : Nat) (w0 : World) : Prop where
  lo : w0.heap.size ≤ bv ∧ w0.heap.size ≤ br ∧ w0.heap.size ≤ bd ∧ w0.heap.size ≤ bh ∧ w0.heap.size ≤ bm
  hi : bv < base ∧ br < base ∧ bd < base ∧ bh < base ∧ bm < base
  ne : br ≠ bv ∧ bd ≠ bv ∧ bh ≠ bv ∧ bm ≠ bv ∧ br ≠ bm ∧ bd ≠ bm ∧ bh ≠ bm

theorem putv3 {w : World} {bv : Nat} {c0 c1 c2 c3 c4 : Value} (h : w.heap[bv]? = some (.cells #[c0, c1, c2, c3, c4] 25 (0, 0))) (v : Value) : (w.setCell ⟨bv, 3, none⟩ v).heap[bv]? = some (.cells #[c0, c1, c2, v, c4] 25 (0, 0)) := by
  simp [World.setCell, Array.getElem?_modify, h]

/-- Behind the first statement: one name more. -/
theorem names_fin {base b bv br bd bh bm n1 : Nat} {T : ByteArray} {w0 w w1 X w3 W : World} {ns : List ByteArray} {l : List J} {s : ByteArray} {an : Option Addr} {cn g cap3 : Nat}
    (hlo : ObjLo base b bv br bd bh bm w0) (hb : b < w0.heap.size) (hba : w0.heap.size ≤ base ∧ base ≤ w.heap.size)
    (_hnm : w.ownsRow base 9 1 (.slice an ns.length cn) ns.length (strs ns)) (hnn : ∀ g, (Value.slice an ns.length cn).ownBlock = some g → g ∉ av6 b bv br bd bh bm)
    (hit : ItemsInv base bv (.int .i64 6) (.slice an ns.length cn) (av6 b bv br bd bh bm ++ (Value.slice an ns.length cn).ownBlock.toList) l w)
    (hA1 : At b T n1 w1) (hS1 : SetAt bm (ns ++ [s]) w1) (hK1 : Kp2 b bm w w1)
    (x2 : w1.heap.size ≤ X.heap.size) (x3 : ∀ k, k < w1.heap.size → X.heap[k]? = w1.heap[k]?) (xo : X.os = w1.os) (xt : X.tape = w1.tape) (xp : X.output = w1.output)
    (hgrow : X.grownBy w3 (Value.slice an ns.length cn).ownBlock) (hat : (Value.slice an ns.length cn).ownBlock = some g ∨ g = X.heap.size)
    (hown3 : w3.ownsRow base 9 1 (.slice (some ⟨g, 0, none⟩) (ns.length + 1) cap3) (ns.length + 1) (strs ns ++ [.string s]))
    (hW : W = w3.setCell ⟨bv, 3, none⟩ (.slice (some ⟨g, 0, none⟩) (ns.length + 1) cap3)) :
    ItemsInv base bv (.int .i64 6) (.slice (some ⟨g, 0, none⟩) (ns.length + 1) cap3) (av6 b bv br bd bh bm ++ [g]) l W ∧
    W.ownsRow base 9 1 (.slice (some ⟨g, 0, none⟩) (ns.length + 1) cap3) (ns.length + 1) (strs (ns ++ [s])) ∧ g ∉ av6 b bv br bd bh bm ∧ g < W.heap.size ∧
    SetAt bm (ns ++ [s]) W ∧ At b T n1 W ∧ W.os = w.os ∧ W.tape = w.tape ∧ W.output = w.output ∧ w.heap.size ≤ W.heap.size ∧
      ∀ k, k < w.heap.size → k ≠ b → k ≠ bv → k ≠ bm → (∀ g0, (Value.slice an ns.length cn).ownBlock = some g0 → k ≠ g0) → W.heap[k]? = w.heap[k]? := by
  obtain ⟨⟨lo1, lo2, lo3, lo4, lo5⟩, ⟨hi1, hi2, hi3, hi4, hi5⟩, ne1, ne2, ne3, ne4, ne5, ne6, ne7⟩ := hlo
  obtain ⟨ao, cap, xs, hbv, hown, hne, hrep⟩ := hit
  have s1 := hK1.size
  have s3 := hgrow.size
  have hsz : W.heap.size = w3.heap.size := by rw [hW, Kp.sz_set]
  have hgav : g ∉ av6 b bv br bd bh bm := by
    rcases hat with h | h
    · exact hnn g h
    · intro hm; simp [av6] at hm; omega
  have hm6 : ∀ k, k ∈ av6 b bv br bd bh bm → (∀ g0, (Value.slice an ns.length cn).ownBlock = some g0 → k ≠ g0) := fun k hk g0 h0 e => hnn g0 h0 (e ▸ hk)
  have hvg : bv ≠ g := fun e => hgav (by simp [av6, e])
  have hold : ∀ k, k < w1.heap.size → k ≠ bv → (∀ g0, (Value.slice an ns.length cn).ownBlock = some g0 → k ≠ g0) → W.heap[k]? = w1.heap[k]? := fun k hk hkv hko => by
    rw [hW, Below.heap_setCell _ _ _ _ hkv, hgrow.block k (by omega) (fun h => hko k h.symm rfl), x3 k hk]
  have hF : ∀ k, k < w.heap.size → k ≠ b → k ≠ bv → k ≠ bm → (∀ g0, (Value.slice an ns.length cn).ownBlock = some g0 → k ≠ g0) → W.heap[k]? = w.heap[k]? := fun k hk hkb hkv hkm hko => by
    rw [hold k (by omega) hkv hko, hK1.block k hk hkb hkm]
  have hbv3 : w3.heap[bv]? = w.heap[bv]? := by
    rw [hgrow.block bv (by omega) (fun h => hm6 bv (by simp [av6]) bv h.symm rfl), x3 bv (by omega), hK1.block bv (by omega) (by omega) (by omega)]
  have hgi : ∀ gi, (Value.slice ao l.length cap).ownBlock = some gi → gi < w.heap.size ∧ gi ≠ b ∧ gi ≠ bv ∧ gi ≠ bm ∧ (∀ g0, (Value.slice an ns.length cn).ownBlock = some g0 → gi ≠ g0) := fun gi h => by
    have h1 := hne gi h
    simp only [av6, List.mem_append, List.mem_cons, List.not_mem_nil, or_false, not_or, Option.mem_toList] at h1
    exact ⟨(ownsRow_ge hown h).2, by omega, by omega, by omega, fun g0 h0 e => h1.2 (by rw [h0, e])⟩
  refine ⟨⟨ao, cap, xs, ?_, ?_, ?_, ?_⟩, ?_, hgav, ?_, ?_, ?_, ?_, ?_, ?_, by omega, hF⟩
  · rw [hW]; exact putv3 (hbv3.trans hbv) _
  · exact ownsRow_keep hown (fun gi h => by obtain ⟨a1, a2, a3, a4, a5⟩ := hgi gi h; exact hF gi a1 a2 a3 a4 a5)
  · intro gi h hm
    obtain ⟨a1, a2, a3, a4, a5⟩ := hgi gi h
    rcases List.mem_append.1 hm with hm | hm
    · exact hne gi h (List.mem_append_left _ hm)
    · have : gi = g := by simpa using hm
      rcases hat with h' | h'
      · exact a5 g h' this
      · omega
  · have k1 : RepL W base w.heap.size (av6 b bv br bd bh bm ++ (Value.slice an ns.length cn).ownBlock.toList ++ (Value.slice ao l.length cap).ownBlock.toList) l xs :=
      RepL.keep2 l xs hrep (fun k ka kb kn => hF k kb (fun e => kn (by simp [av6, e])) (fun e => kn (by simp [av6, e])) (fun e => kn (by simp [av6, e])) (fun g0 h0 e => kn (by simp [h0, e])))
    have k2 : RepL W base w.heap.size (av6 b bv br bd bh bm ++ [g] ++ (Value.slice ao l.length cap).ownBlock.toList) l xs := RepL.obs l xs k1 (fun g' hg' => by
      rcases List.mem_append.1 hg' with hg' | hg'
      · rcases List.mem_append.1 hg' with hg' | hg'
        · exact Or.inl (List.mem_append_left _ (List.mem_append_left _ hg'))
        · have : g' = g := by simpa using hg'
          subst this
          rcases hat with h | h
          · exact Or.inl (by simp [h])
          · exact Or.inr (by omega)
      · exact Or.inl (List.mem_append_right _ hg'))
    exact RepL.up _ _ k2 (by omega)
  · have : strs (ns ++ [s]) = strs ns ++ [.string s] := by simp [strs]
    rw [this, hW]
    exact ownsRow_keep hown3 (fun g' hg' => Below.heap_setCell _ _ _ _ (by have : g' = g := by simpa [Value.ownBlock] using hg'.symm
                                                                           show g' ≠ bv; omega))
  · have := (ownsRow_ge hown3 (g := g) rfl).2; omega
  · exact hS1.keep (hold bm hS1.lt (by omega) (hm6 bm (by simp [av6])))
  · exact (hold b hA1.lt (by omega) (hm6 b (by simp [av6]))).trans hA1
  · rw [hW, set_os, hgrow.os, xo, hK1.os]
  · rw [hW, set_tape, hgrow.tape, xt, hK1.tape]
  · rw [hW, set_out, hgrow.output, xp, hK1.output]

/-- Behind the second statement: one item more. wm: the world between the two. -/
theorem obj_close {base b bv br bd bh bm : Nat} {d : Int} {w0 wI w wm W : World} {ns : List ByteArray} {s : ByteArray} {l : List J} {j : J} {an : Option Addr} {cn g cap3 : Nat} {ao : Option Addr} {cap : Nat}
    (hlo : ObjLo base b bv br bd bh bm w0) (hI : ObjInv base b bv br bd bh bm d w0 wI (ns, l) w) (hb8 : 8 ≤ b)
    (hge0 : ∀ g, (Value.slice an ns.length cn).ownBlock = some g → base ≤ g) (_hnn : ∀ g, (Value.slice an ns.length cn).ownBlock = some g → g ∉ av6 b bv br bd bh bm)
    (m2 : wm.ownsRow base 9 1 (.slice (some ⟨g, 0, none⟩) (ns.length + 1) cap3) (ns.length + 1) (strs (ns ++ [s]))) (m3 : g ∉ av6 b bv br bd bh bm)
    (m5 : SetAt bm (ns ++ [s]) wm) (m7 : wm.os = w.os) (m8 : wm.tape = w.tape) (m9 : wm.output = w.output) (m10 : w.heap.size ≤ wm.heap.size)
    (m11 : ∀ k, k < w.heap.size → k ≠ b → k ≠ bv → k ≠ bm → (∀ g0, (Value.slice an ns.length cn).ownBlock = some g0 → k ≠ g0) → wm.heap[k]? = w.heap[k]?)
    (hge : ∀ g, (Value.slice ao l.length cap).ownBlock = some g → base ≤ g) (hne : ∀ gi, (Value.slice ao l.length cap).ownBlock = some gi → gi ∉ av6 b bv br bd bh bm ++ [g])
    (f1 : ItemsInv base bv (.int .i64 6) (.slice (some ⟨g, 0, none⟩) (ns.length + 1) cap3) (av6 b bv br bd bh bm ++ [g]) (l ++ [j]) W) (f3 : W.os = wm.os) (f4 : W.tape = wm.tape) (f5 : W.output = wm.output) (f6 : wm.heap.size ≤ W.heap.size)
    (f7 : ∀ k, k < wm.heap.size → k ≠ b → k ≠ bv → (∀ g0, (Value.slice ao l.length cap).ownBlock = some g0 → k ≠ g0) → W.heap[k]? = wm.heap[k]?) : ObjInv base b bv br bd bh bm d w0 wI (ns ++ [s], l ++ [j]) W := by
  obtain ⟨hE, hK, hb, hba, hfx, hbr, hbd, hbh, hset, heq, -⟩ := hI
  obtain ⟨⟨lo1, lo2, lo3, lo4, lo5⟩, ⟨hi1, hi2, hi3, hi4, hi5⟩, ne1, ne2, ne3, ne4, ne5, ne6, ne7⟩ := hlo
  have hmid : ∀ k, k < base → k ≠ b → k ≠ bv → k ≠ bm → wm.heap[k]? = w.heap[k]? := fun k hk h1 h2 h3 => m11 k (by omega) h1 h2 h3 (fun g0 h0 => by have := hge0 g0 h0; omega)
  have hlow : ∀ k, k < base → k ≠ b → k ≠ bv → W.heap[k]? = wm.heap[k]? := fun k hk h1 h2 => f7 k (by omega) h1 h2 (fun g0 h0 => by have := hge g0 h0; omega)
  have hboth : ∀ k, k < base → k ≠ b → k ≠ bv → k ≠ bm → W.heap[k]? = w.heap[k]? := fun k hk h1 h2 h3 => (hlow k hk h1 h2).trans (hmid k hk h1 h2 h3)
  have hgW : W.heap[g]? = wm.heap[g]? := by
    have hg := ownsRow_ge m2 (g := g) rfl
    simp only [av6, List.mem_cons, List.not_mem_nil, or_false, not_or] at m3
    exact f7 g hg.2 (by omega) (by omega) (fun g0 h0 e => hne g0 h0 (by simp [e]))
  refine ⟨hE.keep (fun k hk => hboth k (by omega) (by omega) (by omega) (by omega)), ⟨(f3.trans m7).trans hK.os, (f4.trans m8).trans hK.tape, (f5.trans m9).trans hK.output, by have := hK.size; omega, fun k hk hkb => (hboth k (by omega) hkb (by omega) (by omega)).trans (hK.block k hk hkb)⟩, hb, ⟨hba.1, by omega⟩, fun k hk h1 h2 h3 => (hboth k hk h1 h2 h3).trans (hfx k hk h1 h2 h3), ?_, ?_, ?_, ?_, ?_, ?_⟩
  · rw [hboth br hi2 (by omega) ne1 ne5]; exact hbr
  · rw [hboth bd hi3 (by omega) ne2 ne6]; exact hbd
  · rw [hboth bh hi4 (by omega) ne3 ne7]; exact hbh
  · exact m5.keep (hlow bm hi5 (by omega) ne4)
  · have heq2 : ns.length = l.length := heq
    simp only [List.length_append, List.length_cons, List.length_nil]; omega
  · refine ⟨some ⟨g, 0, none⟩, cap3, ?_, ?_, ?_⟩
    · simp only [List.length_append, List.length_cons, List.length_nil]
      exact ownsRow_keep m2 (fun g' hg' => by have : g' = g := by simpa [Value.ownBlock] using hg'.symm
                                              rw [this]; exact hgW)
    · intro g' hg'
      have : g' = g := by simpa [Value.ownBlock] using hg'.symm
      rw [this]; exact m3
    · simp only [List.length_append, List.length_cons, List.length_nil]
      exact f1
end Go.Proofs.YtnccaidlcaeeaaaGreatDoor
