import Derived.Test.YteghmgjdibdnlaaGreatDoorW6
namespace Go.Proofs.YteghmgjdibdnlaaGreatDoor
open Go Go.RowKit

theorem RepL.keep2 {w w' : World} {lo hi : Nat} {obs : List Nat} : (l : List J) → (xs : List Value) → RepL w lo hi obs l xs → (∀ k, lo ≤ k → k < hi → k ∉ obs → w'.heap[k]? = w.heap[k]?) → RepL w' lo hi obs l xs
  | [], _, h, _ => h
  | j :: js, xs, h, hk => by
    unfold RepL at *
    obtain ⟨lo', hi', h1, h2, h3, h4, h5, h6, h7⟩ := h
    exact ⟨lo', hi', h1, h2, h3, h4, h5, Rep.keep j _ h6 (fun k a b => hk k (by omega) (by omega) (fun hm => h4 k hm ⟨a, b⟩)), RepL.keep2 js _ h7 (fun k a b => hk k (by omega) b)⟩
/-- Other blocks are shut out: each is one of the elder ones, or lies beyond. -/
theorem RepL.obs {w : World} {lo hi : Nat} {obs obs' : List Nat} : (l : List J) → (xs : List Value) → RepL w lo hi obs l xs → (∀ g, g ∈ obs' → g ∈ obs ∨ hi ≤ g) → RepL w lo hi obs' l xs
  | [], _, h, _ => h
  | j :: js, xs, h, hk => by
    unfold RepL at *
    obtain ⟨lo', hi', h1, h2, h3, h4, h5, h6, h7⟩ := h
    exact ⟨lo', hi', h1, h2, h3, fun g hg hin => (hk g hg).elim (fun h => h4 g h hin) (fun h => by omega), h5, h6, RepL.obs js _ h7 hk⟩
theorem RepL.snoc {w : World} {hi lo2 hi2 : Nat} {obs : List Nat} {j : J} {cs : List Value} (h2 : hi ≤ lo2) (h3 : lo2 ≤ hi2) (hob : ∀ g, g ∈ obs → ¬ (lo2 ≤ g ∧ g < hi2)) (hr : Rep w lo2 hi2 j cs) (hc : cs.length = 5) :
    (lo : Nat) → lo ≤ hi → (l : List J) → (xs : List Value) → RepL w lo hi obs l xs → RepL w lo hi2 obs (l ++ [j]) (xs ++ cs)
  | lo, hlo, [], xs, h => by
    unfold RepL at h
    subst h
    simp only [List.nil_append]
    unfold RepL
    exact ⟨lo2, hi2, by omega, h3, Nat.le_refl _, hob, by omega, by rw [List.take_of_length_le (by omega)]; exact hr, by unfold RepL; exact List.drop_of_length_le (by omega)⟩
  | lo, hlo, i :: js, xs, h => by
    unfold RepL at h
    obtain ⟨lo', hi', a1, a2, a3, a4, a5, a6, a7⟩ := h
    simp only [List.cons_append]
    unfold RepL
    refine ⟨lo', hi', a1, a2, by omega, a4, by rw [List.length_append]; omega, ?_, ?_⟩
    · rw [List.take_append_of_le_length a5]; exact a6
    · rw [List.drop_append_of_le_length a5]; exact RepL.snoc h2 h3 hob hr hc hi' a3 js _ a7
theorem RepL.up {w : World} {lo hi hi2 : Nat} {obs : List Nat} : (l : List J) → (xs : List Value) → RepL w lo hi obs l xs → hi ≤ hi2 → RepL w lo hi2 obs l xs
  | [], _, h, _ => h
  | j :: js, xs, h, hk => by
    unfold RepL at *
    obtain ⟨lo', hi', h1, h2, h3, h4, h5, h6, h7⟩ := h
    exact ⟨lo', hi', h1, h2, by omega, h4, h5, h6, RepL.up js _ h7 hk⟩
theorem set_five (xs zs : List Value) (p : Nat) (a0 a1 a2 a3 a4 z0 z1 z2 z3 z4 : Value) (h : xs.length = p) (hz : zs = [z0, z1, z2, z3, z4]) :
    (((((xs ++ zs).set p a0).set (p + 1) a1).set (p + 2) a2).set (p + 3) a3).set (p + 4) a4 = xs ++ [a0, a1, a2, a3, a4] := by
  subst h hz
  simp [List.set_append_right]

def zer : List Value := [.int .i64 0, .int .i64 0, .string noS, nilS, nilS]
theorem zer1 : ∀ u ∈ zer, u.oneCell' = true := by decide
def put5 (w : World) (g p : Nat) (a0 a1 a2 a3 a4 : Value) : World := ((((w.setCell ⟨g, p, none⟩ a0).setCell ⟨g, p + 1, none⟩ a1).setCell ⟨g, p + 2, none⟩ a2).setCell ⟨g, p + 3, none⟩ a3).setCell ⟨g, p + 4, none⟩ a4
theorem put5_own {w : World} {B g cap n p : Nat} {xs : List Value} (h : w.ownsRow B 25 5 (.slice (some ⟨g, 0, none⟩) n cap) n (xs ++ zer)) (hx : xs.length = p) (a0 a1 a2 a3 a4 : Value) :
    (put5 w g p a0 a1 a2 a3 a4).ownsRow B 25 5 (.slice (some ⟨g, 0, none⟩) n cap) n (xs ++ [a0, a1, a2, a3, a4]) := by
  have := (((((h.stored p a0).1.stored (p + 1) a1).1.stored (p + 2) a2).1.stored (p + 3) a3).1.stored (p + 4) a4).1
  rw [set_five xs zer p a0 a1 a2 a3 a4 _ _ _ _ _ hx rfl] at this
  exact this
theorem put5_far {w : World} {g p : Nat} (a0 a1 a2 a3 a4 : Value) {k : Nat} (hk : k ≠ g) : (put5 w g p a0 a1 a2 a3 a4).heap[k]? = w.heap[k]? := by
  unfold put5
  rw [Below.heap_setCell _ _ _ _ hk, Below.heap_setCell _ _ _ _ hk, Below.heap_setCell _ _ _ _ hk, Below.heap_setCell _ _ _ _ hk, Below.heap_setCell _ _ _ _ hk]
theorem put5_size (w : World) (g p : Nat) (a0 a1 a2 a3 a4 : Value) : (put5 w g p a0 a1 a2 a3 a4).heap.size = w.heap.size := by simp [put5, World.setCell]
theorem putv {w : World} {bv : Nat} {c0 c1 c2 c3 c4 : Value} (h : w.heap[bv]? = some (.cells #[c0, c1, c2, c3, c4] 25 (0, 0))) (v : Value) : (w.setCell ⟨bv, 4, none⟩ v).heap[bv]? = some (.cells #[c0, c1, c2, c3, v] 25 (0, 0)) := by
  simp [World.setCell, Array.getElem?_modify, h]

theorem set_os (w : World) (p : Addr) (u : Value) : (w.setCell p u).os = w.os := rfl
theorem set_tape (w : World) (p : Addr) (u : Value) : (w.setCell p u).tape = w.tape := rfl
theorem set_out (w : World) (p : Addr) (u : Value) : (w.setCell p u).output = w.output := rfl
theorem put5_os (w : World) (g p : Nat) (a0 a1 a2 a3 a4 : Value) : (put5 w g p a0 a1 a2 a3 a4).os = w.os := by unfold put5; rw [set_os, set_os, set_os, set_os, set_os]
theorem put5_tape (w : World) (g p : Nat) (a0 a1 a2 a3 a4 : Value) : (put5 w g p a0 a1 a2 a3 a4).tape = w.tape := by unfold put5; rw [set_tape, set_tape, set_tape, set_tape, set_tape]
theorem put5_out (w : World) (g p : Nat) (a0 a1 a2 a3 a4 : Value) : (put5 w g p a0 a1 a2 a3 a4).output = w.output := by unfold put5; rw [set_out, set_out, set_out, set_out, set_out]

/-- The items of the list or object that is being read: its variable v at block bv (its first cell c0, its Names c3); av: the blocks that are not theirs. -/
def ItemsInv (base bv : Nat) (c0 c3 : Value) (av : List Nat) (l : List J) (w : World) : Prop :=
  ∃ ao cap xs, w.heap[bv]? = some (.cells #[c0, .int .i64 0, .string noS, c3, .slice ao l.length cap] 25 (0, 0)) ∧ w.ownsRow base 25 5 (.slice ao l.length cap) l.length xs ∧
    (∀ g, (Value.slice ao l.length cap).ownBlock = some g → g ∉ av) ∧ RepL w base w.heap.size (av ++ (Value.slice ao l.length cap).ownBlock.toList) l xs

/-- From the walk's last world to the relation: X is the world of the append, w3 the one behind it, W the one behind the stores, in either order. -/
theorem items_fin {base b bv n' : Nat} {T : ByteArray} {c0 c3 : Value} {av : List Nat} {w w2 X w3 W : World} {l : List J} {ao : Option Addr} {cap : Nat} {xs : List Value} {j : J} {g cap3 loJ : Nat} {kd x : Int} {s : ByteArray} {nm it : Value}
    (hba : base ≤ w.heap.size) (hbb : b < base) (hav : ∀ k, k ∈ av → k < w.heap.size) (hvav : bv ∈ av) (hbav : b ∈ av) (hbne : b ≠ bv)
    (hbv : w.heap[bv]? = some (.cells #[c0, .int .i64 0, .string noS, c3, .slice ao l.length cap] 25 (0, 0)))
    (hown : w.ownsRow base 25 5 (.slice ao l.length cap) l.length xs) (hne : ∀ g, (Value.slice ao l.length cap).ownBlock = some g → g ∉ av)
    (hrep : RepL w base w.heap.size (av ++ (Value.slice ao l.length cap).ownBlock.toList) l xs)
    (hA2 : At b T n' w2) (hrep2 : Rep w2 loJ w2.heap.size j (five kd x s nm it)) (hlo : w.heap.size ≤ loJ) (hlo2 : loJ ≤ w2.heap.size)
    (x1 : ∀ k, k < w.heap.size → k ≠ b → X.heap[k]? = w.heap[k]?) (x2 : w2.heap.size ≤ X.heap.size) (x3 : ∀ k, k < w2.heap.size → X.heap[k]? = w2.heap[k]?)
    (xo : X.os = w.os) (xt : X.tape = w.tape) (xp : X.output = w.output)
    (hgrow : X.grownBy w3 (Value.slice ao l.length cap).ownBlock) (hat : (Value.slice ao l.length cap).ownBlock = some g ∨ g = X.heap.size)
    (hown3 : w3.ownsRow base 25 5 (.slice (some ⟨g, 0, none⟩) (l.length + 1) cap3) (l.length + 1) (xs ++ zer))
    (hW : W = (put5 w3 g (l.length * 5) (.int .i64 kd) (.int .i64 x) (.string s) nm it).setCell ⟨bv, 4, none⟩ (.slice (some ⟨g, 0, none⟩) (l.length + 1) cap3) ∨
      W = put5 (w3.setCell ⟨bv, 4, none⟩ (.slice (some ⟨g, 0, none⟩) (l.length + 1) cap3)) g (l.length * 5) (.int .i64 kd) (.int .i64 x) (.string s) nm it) :
    ItemsInv base bv c0 c3 av (l ++ [j]) W ∧ At b T n' W ∧ W.os = w.os ∧ W.tape = w.tape ∧ W.output = w.output ∧ w.heap.size ≤ W.heap.size ∧
      ∀ k, k < w.heap.size → k ≠ b → k ≠ bv → (∀ g0, (Value.slice ao l.length cap).ownBlock = some g0 → k ≠ g0) → W.heap[k]? = w.heap[k]? := by
  have hx : xs.length = l.length * 5 := hown.1
  have lo4 := hav bv hvav
  have hgav : g ∉ av := by
    rcases hat with h | h
    · exact hne g h
    · intro hm; have := hav g hm; omega
  have hgv : bv ≠ g := fun e => hgav (e ▸ hvav)
  have hgb : b ≠ g := fun e => hgav (e ▸ hbav)
  have hw2 : w.heap.size ≤ w2.heap.size := by omega
  have hbv3 : w3.heap[bv]? = w.heap[bv]? := (hgrow.block bv (by omega) (fun h => hne bv h.symm hvav)).trans (x1 bv lo4 (Ne.symm hbne))
  have hfar : ∀ k, k ≠ bv → k ≠ g → W.heap[k]? = w3.heap[k]? := fun k hkb hkg => by
    rcases hW with rfl | rfl
    · rw [Below.heap_setCell _ _ _ _ hkb, put5_far _ _ _ _ _ hkg]
    · rw [put5_far _ _ _ _ _ hkg, Below.heap_setCell _ _ _ _ hkb]
  have hsz : W.heap.size = w3.heap.size := by
    rcases hW with rfl | rfl
    · rw [Kp.sz_set, put5_size]
    · rw [put5_size, Kp.sz_set]
  have hfix : W.os = w3.os ∧ W.tape = w3.tape ∧ W.output = w3.output := by
    rcases hW with h | h
    · rw [h, set_os, set_tape, set_out, put5_os, put5_tape, put5_out]; exact ⟨rfl, rfl, rfl⟩
    · rw [h, put5_os, put5_tape, put5_out, set_os, set_tape, set_out]; exact ⟨rfl, rfl, rfl⟩
  have hblk : ∀ g', (Value.slice (some ⟨g, 0, none⟩) (l.length + 1) cap3).ownBlock = some g' → g' ≠ bv := fun g' hg' => by
    have : g' = g := by simpa [Value.ownBlock] using hg'.symm
    omega
  have hWo : W.ownsRow base 25 5 (.slice (some ⟨g, 0, none⟩) (l.length + 1) cap3) (l.length + 1) (xs ++ five kd x s nm it) := by
    rcases hW with rfl | rfl
    · exact ownsRow_keep (put5_own hown3 hx _ _ _ _ _) (fun g' hg' => Below.heap_setCell _ _ _ _ (hblk g' hg'))
    · exact put5_own (ownsRow_keep hown3 (fun g' hg' => Below.heap_setCell _ _ _ _ (hblk g' hg'))) hx _ _ _ _ _
  have hWv : W.heap[bv]? = some (.cells #[c0, .int .i64 0, .string noS, c3, .slice (some ⟨g, 0, none⟩) (l.length + 1) cap3] 25 (0, 0)) := by
    rcases hW with rfl | rfl
    · exact putv ((put5_far _ _ _ _ _ hgv).trans (hbv3.trans hbv)) _
    · exact (put5_far _ _ _ _ _ hgv).trans (putv (hbv3.trans hbv) _)
  have hs3 := hgrow.size
  have hJW : Rep W loJ w2.heap.size j (five kd x s nm it) := Rep.keep j _ hrep2 (fun k ka kb => by
    have hkg : k ≠ g := by
      rcases hat with h | h
      · have := (ownsRow_ge hown h).2; omega
      · omega
    rw [hfar k (by omega) hkg, hgrow.block k (by omega) (fun h => by have := (ownsRow_ge hown h.symm).2; omega), x3 k kb])
  have hF : ∀ k, k < w.heap.size → k ≠ b → k ≠ bv → (∀ g0, (Value.slice ao l.length cap).ownBlock = some g0 → k ≠ g0) → W.heap[k]? = w.heap[k]? := by
    intro k hk hkb hkv hko
    have hkg : k ≠ g := by
      rcases hat with h | h
      · exact hko g h
      · omega
    rw [hfar k hkv hkg, hgrow.block k (by omega) (fun h => hko k h.symm rfl), x1 k hk hkb]
  refine ⟨⟨some ⟨g, 0, none⟩, cap3, xs ++ five kd x s nm it, ?_, ?_, ?_, ?_⟩, ?_, hfix.1.trans (hgrow.os.trans xo), hfix.2.1.trans (hgrow.tape.trans xt), hfix.2.2.trans (hgrow.output.trans xp), by omega, hF⟩
  · rw [List.length_append]; exact hWv
  · rw [List.length_append]; exact hWo
  · intro g' hg'
    have : g' = g := by simpa [Value.ownBlock] using hg'.symm
    rw [this]; exact hgav
  · have k1 : RepL W base w.heap.size (av ++ (Value.slice ao l.length cap).ownBlock.toList) l xs :=
      RepL.keep2 l xs hrep (fun k ka kb kn => hF k kb (by omega) (fun e => kn (by simp [e, hvav])) (fun g0 h0 e => kn (by simp [h0, e])))
    have k2 : RepL W base w.heap.size (av ++ [g]) l xs := RepL.obs l xs k1 (fun g' hg' => by
      rcases List.mem_append.1 hg' with hg' | hg'
      · exact Or.inl (by simp [hg'])
      · have : g' = g := by simpa using hg'
        subst this
        rcases hat with h | h
        · exact Or.inl (by simp [h])
        · exact Or.inr (by omega))
    have k3 : RepL W base w2.heap.size (av ++ [g]) (l ++ [j]) (xs ++ five kd x s nm it) := RepL.snoc hlo hlo2 (fun g' hg' hin => by
      rcases List.mem_append.1 hg' with hg' | hg'
      · have := hav g' hg'; omega
      · have : g' = g := by simpa using hg'
        subst this
        rcases hat with h | h
        · have := (ownsRow_ge hown h).2; omega
        · omega) hJW rfl base hba l xs k2
    exact RepL.up _ _ k3 (by omega)
  · have hbl := hA2.lt
    unfold At at *
    rw [hfar b hbne hgb, hgrow.block b (by omega) (fun h => hne b h.symm hbav), x3 b hbl]
    exact hA2
end Go.Proofs.YteghmgjdibdnlaaGreatDoor
