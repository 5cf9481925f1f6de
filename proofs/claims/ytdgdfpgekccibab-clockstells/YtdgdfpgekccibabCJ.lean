import Derived.Test.YtdgdfpgekccibabCI
/-! clocks: a range over the walk through a trace. -/
namespace Go.Proofs.Ytdgdfpgekccibab
open Go Go.RowKit Go.Shelf
attribute [local go_sem] Oper.semAt_some
/-- How the body of a round is left. -/
def rPost (I : Nat → (Nat → Prop) → World → Prop) (B : Nat) (a : Option Addr) (evs : List Ev) (k : Nat) (S : Nat → Prop) (W : World) (e : Exit) (_ : Act) (W' : World) : Prop :=
  e = .normal ∧ I (k + 1) S W' ∧ (∀ b, S b ∨ b = B ∨ b = B + 1 → W'.heap[b]? = W.heap[b]?) ∧ W.heap.size ≤ W'.heap.size ∧ EvsAt W' a evs
theorem fr_putObj {S : Nat → Prop} {x w : World} (h : Fr S x w) (l : Nat) (o : Obj) (hl : S l ∨ x.heap.size ≤ l) : Fr S x (w.putObj l o) :=
  h.grown (grownBy_putObj' w l o) (fun g e => by cases e; exact hl)
theorem EvsAt.block {w w' : World} {a : Option Addr} {l : List Ev} (h : EvsAt w a l) (hs : w.heap.size ≤ w'.heap.size) (hk : ∀ p, a = some p → l ≠ [] → w'.heap[p.block]? = w.heap[p.block]?) : EvsAt w' a l := fun j e he => by
  obtain ⟨b, o, h1, h2, h3, h4, h5, h6⟩ := h j e he
  have hb := hk _ h1 (fun e => by subst e; simp at he)
  have hc : ∀ q, w'.cell? ⟨b, q, none⟩ = w.cell? ⟨b, q, none⟩ := fun q => World.cell?_of_block hb
  exact ⟨b, o, h1, Nat.lt_of_lt_of_le h2 hs, (hc _).trans h3, (hc _).trans h4, (hc _).trans h5, (hc _).trans h6⟩
set_option maxHeartbeats 1000000 in
set_option maxRecDepth 100000 in
theorem rf_law {n : Nat} {g : Operand} {ps : Array Tmp} {assign body : Code} {Q : Exit → Act → World → Prop} {act : Act} {w : World} {bE cap : Nat} {a : Option Addr} {evs : List Ev}
    (hg : act.eval g = .func (.func 30) #[] #[.pointer (some ⟨bE, 0, none⟩)]) (hps : ps.size = 2)
    (hE : EvsAt w a evs) (hbox : w.cell? ⟨bE, 0, none⟩ = some (.slice a evs.length cap)) (hcap : evs.length ≤ cap) (hok : ∀ e ∈ evs, okEv 16 e = true) (hwf : ∀ e ∈ evs, I64 e.o ∧ I64 e.n) (hlen : evs.length ≤ 1048576)
    (I : Nat → (Nat → Prop) → World → Prop) (hI : Abid I) (hIo : ∀ k S W o, I k S W → I k S (W.putObj (w.heap.size + 1) o)) (h0 : I 0 (fun _ => False) w)
    (Ax : Nat → Act → World → Prop) (hAx : ∀ k a' W o, Ax k a' W → Ax k a' (W.putObj (w.heap.size + 1) o))
    (hassign : ∀ (k : Nat) (W : World) (K : Act → World → Prop), w.heap.size + 1 < W.heap.size → (∀ a' W', Below W.heap.size W W' → Ax k a' W' → K a' W') →
      assign.wpIn (Fence.wide.inRound (w.heap.size + 1)) (n - 1 - 1) Try.prog (Exit.then K (fun _ _ _ => False)) { tmps := (ps.zip (encE evs k)).foldl (fun t (p, v) => t.setIfInBounds p v) act.tmps, defers := [] } W)
    (hbody : ∀ (k : Nat) (S : Nat → Prop) (a' : Act) (W : World), I k S W → Ax k a' W → k < evs.length → EvsAt W a evs → (∀ b, S b → b < W.heap.size) → ¬ S w.heap.size → ¬ S (w.heap.size + 1) → w.heap.size + 1 < W.heap.size →
      body.wpIn (Fence.wide.inRound (w.heap.size + 1)) (n - 1 - 1) Try.prog (rPost I w.heap.size a evs k S W) a' W)
    (hdone : ∀ (S : Nat → Prop) (W : World), I evs.length S W → W.heap[w.heap.size]? = some (.deferred (some [])) → Q .normal { act with defers := { target := .collected w.heap.size, args := #[] } :: act.defers } W) :
    (Code.rangeFunc g ps assign body).wp Try.prog Q act w := by
  refine (wpIn_wide (n := n)).1 ?_
  refine wpIn_rangeFunc ?_
  intro fn hfn
  obtain ⟨rec, hrec⟩ : ∃ rec : LoopState → Option Code → Loop, rec = fun st pe => { state := st, pending := pe, fn, tmps := act.tmps, params := ps, assign, body, defers := w.heap.size } := ⟨_, rfl⟩
  obtain ⟨W1, hW1⟩ : ∃ W1, (w.alloc (.deferred (some []))).alloc (.loop (rec .ready none)) = W1 := ⟨_, rfl⟩
  have hL1 : W1.heap[w.heap.size + 1]? = some (.loop (rec .ready none)) := by
    rw [← hW1]; have := World.alloc_heap_new (w.alloc (.deferred (some []))) (.loop (rec .ready none)); rwa [World.size_alloc] at this
  have hK1 : W1.heap[w.heap.size]? = some (.deferred (some [])) := by
    rw [← hW1]; exact (Below.heap_alloc _ _ _ (by simp)).trans (World.alloc_heap_new w _)
  have hF1 : Fr (fun _ => False) w W1 := by rw [← hW1]; exact ((Fr.refl _ w).alloc _).alloc _
  have hs1 : w.heap.size + 1 < W1.heap.size := by rw [← hW1]; simp
  have hIt := fun (Jx : Nat → World → Prop) (hY) (h0') => iter_any (n - 1) (w.heap.size + 1) bE cap a evs
    (fun k S W => I k S W ∧ W.heap[w.heap.size + 1]? = some (.loop (rec .ready none)) ∧ W.heap[w.heap.size]? = some (.deferred (some [])) ∧ ¬ S w.heap.size ∧ ¬ S (w.heap.size + 1)) Jx W1 (hE.fr hF1 (fun _ _ _ e => e)) (hF1.cell hbox (fun e => e)) hcap hok hwf hlen
    (fun k S S' W W' hj hf hS => by
      obtain ⟨h1, h2, h3, h4, h5⟩ := hj
      have l2 := (Array.getElem?_eq_some_iff.1 h2).1
      have l3 := (Array.getElem?_eq_some_iff.1 h3).1
      refine ⟨hI _ _ _ _ _ h1 hf hS, (hf.block _ l2 h5).trans h2, (hf.block _ l3 h4).trans h3, fun e => ?_, fun e => ?_⟩
      · rcases hS _ e with e | e
        · exact h4 e
        · omega
      · rcases hS _ e with e | e
        · exact h5 e
        · omega) hY h0'
  refine ⟨w.heap.size + 1, [{ target := .collected w.heap.size, args := #[] }], W1, { target := .fn (.func 30) #[.pointer (some ⟨bE, 0, none⟩)], args := #[.func (.yield (w.heap.size + 1)) #[] #[]] }, W1, 30,
    #[.func (.yield (w.heap.size + 1)) #[] #[], .pointer (some ⟨bE, 0, none⟩)], W1, ?_, ?_, ?_, ?_, (fun h => by cases h), ?_⟩
  · rw [← hW1, hrec]; exact run_enterLoop_outer _ _ _ _ _
  · simp only [resolve, hg]
    simp [go_sem]
  · intro f' hf'; trivial
  · simp [invoke, go_sem]
  · refine (hIt (fun _ _ => False) ?_ ⟨hI _ _ _ _ _ h0 hF1 (fun _ e => .inl e), hL1, hK1, fun e => e, fun e => e⟩).mono ?_
    · rintro k S W ⟨hi, hl, hk, hS1, hS2⟩ hlt hEv hSlt
      have hy := run_yield (P := Try.prog) (args := encE evs k) hl (by rw [hrec]; exact hps.symm)
      rw [hrec] at hy
      have hlW : w.heap.size + 1 < W.heap.size := (Array.getElem?_eq_some_iff.1 hl).1
      refine ⟨fn, _, assign, body, hy, roundIn_of_wpIn trivial (hassign k W _ hlW ?_)⟩
      clear hy
      intro a' Wa hba hax
      have hla := (hba.block _ hlW).trans hl
      have hka := (hba.block _ (by omega)).trans hk
      have hia := hI _ _ S _ _ hi (Fr.of_below hba) (fun _ e => .inl e)
      refine ⟨_, run_beginRound hla (by rw [hrec]), ?_⟩
      obtain ⟨Wb, hWb⟩ : ∃ Wb, Wa.putObj (w.heap.size + 1) (.loop { rec .ready none with state := .busy }) = Wb := ⟨_, rfl⟩
      have hlb : Wb.heap[w.heap.size + 1]? = some (.loop { rec .ready none with state := .busy }) := by rw [← hWb]; exact World.putObj_heap_same (Array.getElem?_eq_some_iff.1 hla).1
      have hob : ∀ b, b ≠ w.heap.size + 1 → Wb.heap[b]? = Wa.heap[b]? := fun b hb => by rw [← hWb]; exact World.putObj_heap_other hb
      have hsb : Wb.heap.size = Wa.heap.size := by rw [← hWb]; simp
      have hkb := (hob w.heap.size (by omega)).trans hka
      have hib : I k S Wb := by rw [← hWb]; exact hIo _ _ _ _ hia
      have haxb : Ax k a' Wb := by rw [← hWb]; exact hAx _ _ _ _ hax
      have hEa := hEv.keep hba
      have hEb : EvsAt Wb a evs := hEa.block (by omega) (fun p hp hne => hob _ (fun e => by
        obtain ⟨e0, l', rfl⟩ : ∃ e l', evs = e :: l' := by
          cases evs with
          | nil => exact absurd rfl hne
          | cons e l' => exact ⟨e, l', rfl⟩
        obtain ⟨b, o, h1, h2, _⟩ := hE 0 e0 rfl
        rw [h1] at hp
        cases hp
        simp only at e
        omega))
      show body.wpIn _ _ _ _ a' _
      have hWb' := hWb
      simp only [] at hWb'
      rw [hWb']
      refine wpIn_mono (hbody k S a' Wb hib haxb hlt hEb (fun b hb => by rw [hsb]; exact Nat.lt_of_lt_of_le (hSlt b hb) hba.size) hS1 hS2 (by rw [hsb]; exact Nat.lt_of_lt_of_le hlW hba.size)) ?_
      rintro e a3 W3 ⟨rfl, hi3, hk3, hs3, hE3⟩
      have hl3 := (hk3 (w.heap.size + 1) (.inr (.inr rfl))).trans hlb
      have hd3 := (hk3 w.heap.size (.inr (.inl rfl))).trans hkb
      have hend := run_endRound (P := Try.prog) none hl3
      refine ⟨_, _, hend, .inl ⟨rfl, ⟨hIo _ _ _ _ hi3, ?_, (World.putObj_heap_other (by omega)).trans hd3, hS1, hS2⟩, fun b hb => ?_, ?_, ?_⟩⟩
      · rw [World.putObj_heap_same (Array.getElem?_eq_some_iff.1 hl3).1, hrec]
        rfl
      · have hbl : b ≠ w.heap.size + 1 := fun e => hS2 (e ▸ hb)
        rw [World.putObj_heap_other hbl, hk3 b (.inl hb), hob b hbl]
        exact hba.block b (hSlt b hb)
      · have h1 := hba.size
        have h2 : (W3.putObj (w.heap.size + 1) (.loop { rec .ready none with state := (if (none : Option Code).isNone = true then .ready else .done), pending := none })).heap.size = W3.heap.size := by simp
        have h3 : W.heap.size ≤ W3.heap.size := by omega
        rw [← h2] at h3
        exact h3
      · refine hE3.block (by simp) (fun p hp hne => World.putObj_heap_other (fun e => ?_))
        obtain ⟨e0, l', rfl⟩ : ∃ e l', evs = e :: l' := by
          cases evs with
          | nil => exact absurd rfl hne
          | cons e l' => exact ⟨e, l', rfl⟩
        obtain ⟨b, o, h1, h2, _⟩ := hE 0 e0 rfl
        rw [h1] at hp
        cases hp
        simp only at e
        omega
    · rintro e W2 ⟨⟨v, rfl⟩, (⟨S, hi, hl, hk, _, _⟩ | ⟨k, _, h⟩)⟩
      · exact ⟨none, _, by have := run_endLoop (P := Try.prog) hl (by rw [hrec]; simp); rw [hrec] at this; exact this, hdone S _ (hIo _ _ _ _ hi) ((World.putObj_heap_other (by omega)).trans hk)⟩
      · exact h.elim
end Go.Proofs.Ytdgdfpgekccibab
