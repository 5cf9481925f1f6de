import Derived.Test.YteghmgjdibdnlaaGreatDoorS4
namespace Go.Proofs.YteghmgjdibdnlaaGreatDoor
open Go Go.RowKit

def av6 (b bv br bd bh bm : Nat) : List Nat := [bv, br, bd, b, bh, bm]
/-- The object that is being read: its variable v at block bv; the reader's, the depth's and the set's variables at br, bd, bh; the set itself at bm. -/
structure ObjInv (base b bv br bd bh bm : Nat) (d : Int) (w0 wI : World) (p : List ByteArray × List J) (w : World) : Prop where
  env : Env w
  kp : Kp b w0 w
  hb : b < w0.heap.size
  hba : w0.heap.size ≤ base ∧ base ≤ w.heap.size
  fx : ∀ k, k < base → k ≠ b → k ≠ bv → k ≠ bm → w.heap[k]? = wI.heap[k]?
  hbr : w.heap[br]? = some (.cells #[.pointer (some ⟨b, 0, none⟩)] 81 (0, 0))
  hbd : w.heap[bd]? = some (.cells #[.int .i64 d] 3 (0, 0))
  hbh : w.heap[bh]? = some (.cells #[.map (some bm)] 98 (0, 0))
  set : SetAt bm p.1 w
  eq : p.1.length = p.2.length
  val : ∃ an cn, w.ownsRow base 9 1 (.slice an p.1.length cn) p.1.length (strs p.1) ∧ (∀ g, (Value.slice an p.1.length cn).ownBlock = some g → g ∉ av6 b bv br bd bh bm) ∧
    ItemsInv base bv (.int .i64 6) (.slice an p.1.length cn) (av6 b bv br bd bh bm ++ (Value.slice an p.1.length cn).ownBlock.toList) p.2 w
/-- Where the variables stand. -/
structure ObjLo (base b bv br bd bh bm : Nat) (w0 : World) : Prop where
  lo : w0.heap.size ≤ bv ∧ w0.heap.size ≤ br ∧ w0.heap.size ≤ bd ∧ w0.heap.size ≤ bh ∧ w0.heap.size ≤ bm
  hi : bv < base ∧ br < base ∧ bd < base ∧ bh < base ∧ bm < base
  ne : br ≠ bv ∧ bd ≠ bv ∧ bh ≠ bv ∧ bm ≠ bv ∧ br ≠ bm ∧ bd ≠ bm ∧ bh ≠ bm

theorem putv3 {w : World} {bv : Nat} {c0 c1 c2 c3 c4 : Value} (h : w.heap[bv]? = some (.cells #[c0, c1, c2, c3, c4] 25 (0, 0))) (v : Value) : (w.setCell ⟨bv, 3, none⟩ v).heap[bv]? = some (.cells #[c0, c1, c2, v, c4] 25 (0, 0)) := by
  simp [World.setCell, Array.getElem?_modify, h]

/-- Behind the first statement: one name more. -/
theorem names_fin {base b bv br bd bh bm n1 : Nat} {T : ByteArray} {w0 w w1 X w3 W : World} {ns : List ByteArray} {l : List J} {s : ByteArray} {an : Option Addr} {cn g cap3 : Nat}
    (hlo : ObjLo base b bv br bd bh bm w0) (hb : b < w0.heap.size) (hba : w0.heap.size ≤ base ∧ base ≤ w.heap.size)
    (_hnm : w.ownsRow base 9 1 (.slice an ns.length cn) ns.length (strs ns)) (hnn : ∀ g, (Value.slice an ns.length cn).ownBlock = some g → g ∉ av6 b bv br bd bh bm)
    (hit : ItemsInv base bv (.int .i64 6) (.slice an ns.length cn) (av6 b bv br bd bh bm ++ (Value.slice an ns.length cn).ownBlock.toList) l w)
    (hA1 : At b T n1 w1) (hS1 : SetAt bm (ns ++ [s]) w1) (hK1 : Kp2 b bm w w1)
    (x2 : w1.heap.size ≤ X.heap.size) (x3 : ∀ k, k < w1.heap.size → X.heap[k]? = w1.heap[k]?) (xo : X.os = w1.os) (xt : X.tape = w1.tape) (xp : X.output = w1.output)
    (hgrow : X.grownBy w3 (Value.slice an ns.length cn).ownBlock) (hat : (Value.slice an ns.length cn).ownBlock = some g ∨ g = X.heap.size)
    (hown3 : w3.ownsRow base 9 1 (.slice (some ⟨g, 0, none⟩) (ns.length + 1) cap3) (ns.length + 1) (strs ns ++ [.string s]))
    (hW : W = w3.setCell ⟨bv, 3, none⟩ (.slice (some ⟨g, 0, none⟩) (ns.length + 1) cap3)) :
    ItemsInv base bv (.int .i64 6) (.slice (some ⟨g, 0, none⟩) (ns.length + 1) cap3) (av6 b bv br bd bh bm ++ [g]) l W ∧
    W.ownsRow base 9 1 (.slice (some ⟨g, 0, none⟩) (ns.length + 1) cap3) (ns.length + 1) (strs (ns ++ [s])) ∧ g ∉ av6 b bv br bd bh bm ∧ g < W.heap.size ∧
    SetAt bm (ns ++ [s]) W ∧ At b T n1 W ∧ W.os = w.os ∧ W.tape = w.tape ∧ W.output = w.output ∧ w.heap.size ≤ W.heap.size ∧
      ∀ k, k < w.heap.size → k ≠ b → k ≠ bv → k ≠ bm → (∀ g0, (Value.slice an ns.length cn).ownBlock = some g0 → k ≠ g0) → W.heap[k]? = w.heap[k]? := by
  obtain ⟨⟨lo1, lo2, lo3, lo4, lo5⟩, ⟨hi1, hi2, hi3, hi4, hi5⟩, ne1, ne2, ne3, ne4, ne5, ne6, ne7⟩ := hlo
  obtain ⟨ao, cap, xs, hbv, hown, hne, hrep⟩ := hit
  have s1 := hK1.size
  have s3 := hgrow.size
  have hsz : W.heap.size = w3.heap.size := by rw [hW, Kp.sz_set]
  have hgav : g ∉ av6 b bv br bd bh bm := by
    rcases hat with h | h
    · exact hnn g h
    · intro hm; simp [av6] at hm; omega
  have hm6 : ∀ k, k ∈ av6 b bv br bd bh bm → (∀ g0, (Value.slice an ns.length cn).ownBlock = some g0 → k ≠ g0) := fun k hk g0 h0 e => hnn g0 h0 (e ▸ hk)
  have hvg : bv ≠ g := fun e => hgav (by simp [av6, e])
  have hold : ∀ k, k < w1.heap.size → k ≠ bv → (∀ g0, (Value.slice an ns.length cn).ownBlock = some g0 → k ≠ g0) → W.heap[k]? = w1.heap[k]? := fun k hk hkv hko => by
    rw [hW, Below.heap_setCell _ _ _ _ hkv, hgrow.block k (by omega) (fun h => hko k h.symm rfl), x3 k hk]
  have hF : ∀ k, k < w.heap.size → k ≠ b → k ≠ bv → k ≠ bm → (∀ g0, (Value.slice an ns.length cn).ownBlock = some g0 → k ≠ g0) → W.heap[k]? = w.heap[k]? := fun k hk hkb hkv hkm hko => by
    rw [hold k (by omega) hkv hko, hK1.block k hk hkb hkm]
  have hbv3 : w3.heap[bv]? = w.heap[bv]? := by
    rw [hgrow.block bv (by omega) (fun h => hm6 bv (by simp [av6]) bv h.symm rfl), x3 bv (by omega), hK1.block bv (by omega) (by omega) (by omega)]
  have hgi : ∀ gi, (Value.slice ao l.length cap).ownBlock = some gi → gi < w.heap.size ∧ gi ≠ b ∧ gi ≠ bv ∧ gi ≠ bm ∧ (∀ g0, (Value.slice an ns.length cn).ownBlock = some g0 → gi ≠ g0) := fun gi h => by
    have h1 := hne gi h
    simp only [av6, List.mem_append, List.mem_cons, List.not_mem_nil, or_false, not_or, Option.mem_toList] at h1
    exact ⟨(ownsRow_ge hown h).2, by omega, by omega, by omega, fun g0 h0 e => h1.2 (by rw [h0, e])⟩
  refine ⟨⟨ao, cap, xs, ?_, ?_, ?_, ?_⟩, ?_, hgav, ?_, ?_, ?_, ?_, ?_, ?_, by omega, hF⟩
  · rw [hW]; exact putv3 (hbv3.trans hbv) _
  · exact ownsRow_keep hown (fun gi h => by obtain ⟨a1, a2, a3, a4, a5⟩ := hgi gi h; exact hF gi a1 a2 a3 a4 a5)
  · intro gi h hm
    obtain ⟨a1, a2, a3, a4, a5⟩ := hgi gi h
    rcases List.mem_append.1 hm with hm | hm
    · exact hne gi h (List.mem_append_left _ hm)
    · have : gi = g := by simpa using hm
      rcases hat with h' | h'
      · exact a5 g h' this
      · omega
  · have k1 : RepL W base w.heap.size (av6 b bv br bd bh bm ++ (Value.slice an ns.length cn).ownBlock.toList ++ (Value.slice ao l.length cap).ownBlock.toList) l xs :=
      RepL.keep2 l xs hrep (fun k ka kb kn => hF k kb (fun e => kn (by simp [av6, e])) (fun e => kn (by simp [av6, e])) (fun e => kn (by simp [av6, e])) (fun g0 h0 e => kn (by simp [h0, e])))
    have k2 : RepL W base w.heap.size (av6 b bv br bd bh bm ++ [g] ++ (Value.slice ao l.length cap).ownBlock.toList) l xs := RepL.obs l xs k1 (fun g' hg' => by
      rcases List.mem_append.1 hg' with hg' | hg'
      · rcases List.mem_append.1 hg' with hg' | hg'
        · exact Or.inl (List.mem_append_left _ (List.mem_append_left _ hg'))
        · have : g' = g := by simpa using hg'
          subst this
          rcases hat with h | h
          · exact Or.inl (by simp [h])
          · exact Or.inr (by omega)
      · exact Or.inl (List.mem_append_right _ hg'))
    exact RepL.up _ _ k2 (by omega)
  · have : strs (ns ++ [s]) = strs ns ++ [.string s] := by simp [strs]
    rw [this, hW]
    exact ownsRow_keep hown3 (fun g' hg' => Below.heap_setCell _ _ _ _ (by have : g' = g := by simpa [Value.ownBlock] using hg'.symm
                                                                           show g' ≠ bv; omega))
  · have := (ownsRow_ge hown3 (g := g) rfl).2; omega
  · exact hS1.keep (hold bm hS1.lt (by omega) (hm6 bm (by simp [av6])))
  · exact (hold b hA1.lt (by omega) (hm6 b (by simp [av6]))).trans hA1
  · rw [hW, set_os, hgrow.os, xo, hK1.os]
  · rw [hW, set_tape, hgrow.tape, xt, hK1.tape]
  · rw [hW, set_out, hgrow.output, xp, hK1.output]

/-- Behind the second statement: one item more. wm: the world between the two. -/
theorem obj_close {base b bv br bd bh bm : Nat} {d : Int} {w0 wI w wm W : World} {ns : List ByteArray} {s : ByteArray} {l : List J} {j : J} {an : Option Addr} {cn g cap3 : Nat} {ao : Option Addr} {cap : Nat}
    (hlo : ObjLo base b bv br bd bh bm w0) (hI : ObjInv base b bv br bd bh bm d w0 wI (ns, l) w) (hb8 : 8 ≤ b)
    (hge0 : ∀ g, (Value.slice an ns.length cn).ownBlock = some g → base ≤ g) (_hnn : ∀ g, (Value.slice an ns.length cn).ownBlock = some g → g ∉ av6 b bv br bd bh bm)
    (m2 : wm.ownsRow base 9 1 (.slice (some ⟨g, 0, none⟩) (ns.length + 1) cap3) (ns.length + 1) (strs (ns ++ [s]))) (m3 : g ∉ av6 b bv br bd bh bm)
    (m5 : SetAt bm (ns ++ [s]) wm) (m7 : wm.os = w.os) (m8 : wm.tape = w.tape) (m9 : wm.output = w.output) (m10 : w.heap.size ≤ wm.heap.size)
    (m11 : ∀ k, k < w.heap.size → k ≠ b → k ≠ bv → k ≠ bm → (∀ g0, (Value.slice an ns.length cn).ownBlock = some g0 → k ≠ g0) → wm.heap[k]? = w.heap[k]?)
    (hge : ∀ g, (Value.slice ao l.length cap).ownBlock = some g → base ≤ g) (hne : ∀ gi, (Value.slice ao l.length cap).ownBlock = some gi → gi ∉ av6 b bv br bd bh bm ++ [g])
    (f1 : ItemsInv base bv (.int .i64 6) (.slice (some ⟨g, 0, none⟩) (ns.length + 1) cap3) (av6 b bv br bd bh bm ++ [g]) (l ++ [j]) W) (f3 : W.os = wm.os) (f4 : W.tape = wm.tape) (f5 : W.output = wm.output) (f6 : wm.heap.size ≤ W.heap.size)
    (f7 : ∀ k, k < wm.heap.size → k ≠ b → k ≠ bv → (∀ g0, (Value.slice ao l.length cap).ownBlock = some g0 → k ≠ g0) → W.heap[k]? = wm.heap[k]?) : ObjInv base b bv br bd bh bm d w0 wI (ns ++ [s], l ++ [j]) W := by
  obtain ⟨hE, hK, hb, hba, hfx, hbr, hbd, hbh, hset, heq, -⟩ := hI
  obtain ⟨⟨lo1, lo2, lo3, lo4, lo5⟩, ⟨hi1, hi2, hi3, hi4, hi5⟩, ne1, ne2, ne3, ne4, ne5, ne6, ne7⟩ := hlo
  have hmid : ∀ k, k < base → k ≠ b → k ≠ bv → k ≠ bm → wm.heap[k]? = w.heap[k]? := fun k hk h1 h2 h3 => m11 k (by omega) h1 h2 h3 (fun g0 h0 => by have := hge0 g0 h0; omega)
  have hlow : ∀ k, k < base → k ≠ b → k ≠ bv → W.heap[k]? = wm.heap[k]? := fun k hk h1 h2 => f7 k (by omega) h1 h2 (fun g0 h0 => by have := hge g0 h0; omega)
  have hboth : ∀ k, k < base → k ≠ b → k ≠ bv → k ≠ bm → W.heap[k]? = w.heap[k]? := fun k hk h1 h2 h3 => (hlow k hk h1 h2).trans (hmid k hk h1 h2 h3)
  have hgW : W.heap[g]? = wm.heap[g]? := by
    have hg := ownsRow_ge m2 (g := g) rfl
    simp only [av6, List.mem_cons, List.not_mem_nil, or_false, not_or] at m3
    exact f7 g hg.2 (by omega) (by omega) (fun g0 h0 e => hne g0 h0 (by simp [e]))
  refine ⟨hE.keep (fun k hk => hboth k (by omega) (by omega) (by omega) (by omega)), ⟨(f3.trans m7).trans hK.os, (f4.trans m8).trans hK.tape, (f5.trans m9).trans hK.output, by have := hK.size; omega, fun k hk hkb => (hboth k (by omega) hkb (by omega) (by omega)).trans (hK.block k hk hkb)⟩, hb, ⟨hba.1, by omega⟩, fun k hk h1 h2 h3 => (hboth k hk h1 h2 h3).trans (hfx k hk h1 h2 h3), ?_, ?_, ?_, ?_, ?_, ?_⟩
  · rw [hboth br hi2 (by omega) ne1 ne5]; exact hbr
  · rw [hboth bd hi3 (by omega) ne2 ne6]; exact hbd
  · rw [hboth bh hi4 (by omega) ne3 ne7]; exact hbh
  · exact m5.keep (hlow bm hi5 (by omega) ne4)
  · have heq2 : ns.length = l.length := heq
    simp only [List.length_append, List.length_cons, List.length_nil]; omega
  · refine ⟨some ⟨g, 0, none⟩, cap3, ?_, ?_, ?_⟩
    · simp only [List.length_append, List.length_cons, List.length_nil]
      exact ownsRow_keep m2 (fun g' hg' => by have : g' = g := by simpa [Value.ownBlock] using hg'.symm
                                              rw [this]; exact hgW)
    · intro g' hg'
      have : g' = g := by simpa [Value.ownBlock] using hg'.symm
      rw [this]; exact m3
    · simp only [List.length_append, List.length_cons, List.length_nil]
      exact f1
end Go.Proofs.YteghmgjdibdnlaaGreatDoor
