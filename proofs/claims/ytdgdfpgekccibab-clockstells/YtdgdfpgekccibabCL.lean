import Derived.Test.YtdgdfpgekccibabCK
/-! clocks: a range over the walk whose clock lies in a box. -/
namespace Go.Proofs.Ytdgdfpgekccibab
open Go Go.RowKit Go.Shelf
attribute [local go_sem] Oper.semAt_some
def nowAct (act : Act) (p1 p2 s1 s2 : Nat) (evs : List Ev) (k bn : Nat) : Act :=
  { tmps := (((act.tmps.setIfInBounds p1 (.int .i64 (k : Int))).setIfInBounds p2 (.agg (ck (clkAt evs k)).toArray)).setIfInBounds s1 (.int .i64 (k : Int))).setIfInBounds s2 (.pointer (some ⟨bn, 0, none⟩)), defers := [] }
theorem rf_now {n p1 p2 s1 s2 : Nat} {g : Operand} {assign body : Code} {Q : Exit → Act → World → Prop} {act : Act} {w : World} {bE cap : Nat} {a : Option Addr} {evs : List Ev}
    (hg : act.eval g = .func (.func 30) #[] #[.pointer (some ⟨bE, 0, none⟩)])
    (hE : EvsAt w a evs) (hbox : w.cell? ⟨bE, 0, none⟩ = some (.slice a evs.length cap)) (hcap : evs.length ≤ cap) (hok : ∀ e ∈ evs, okEv 16 e = true) (hwf : ∀ e ∈ evs, I64 e.o ∧ I64 e.n) (hlen : evs.length ≤ 1048576)
    (I : Nat → (Nat → Prop) → World → Prop) (hI : Abid I) (hIo : ∀ k S W o, I k S W → I k S (W.putObj (w.heap.size + 1) o)) (h0 : I 0 (fun _ => False) w)
    (hassign : ∀ (k : Nat) (W : World) (K : Act → World → Prop), (∀ W', Below W.heap.size W W' → W'.heap[W.heap.size]? = some (.cells (ck (clkAt evs k)).toArray 49 (0, 0)) → K (nowAct act p1 p2 s1 s2 evs k W.heap.size) W') →
      assign.wpIn (Fence.wide.inRound (w.heap.size + 1)) (n - 1 - 1) Try.prog (Exit.then K (fun _ _ _ => False)) { tmps := (act.tmps.setIfInBounds p1 (.int .i64 (k : Int))).setIfInBounds p2 (.agg (ck (clkAt evs k)).toArray), defers := [] } W)
    (hbody : ∀ (k : Nat) (S : Nat → Prop) (bn : Nat) (W : World), I k S W → w.heap.size + 2 ≤ bn → W.heap[bn]? = some (.cells (ck (clkAt evs k)).toArray 49 (0, 0)) → k < evs.length → EvsAt W a evs → (∀ b, S b → b < W.heap.size) → ¬ S w.heap.size → ¬ S (w.heap.size + 1) → w.heap.size + 1 < W.heap.size →
      body.wpIn (Fence.wide.inRound (w.heap.size + 1)) (n - 1 - 1) Try.prog (rPost I w.heap.size a evs k S W) (nowAct act p1 p2 s1 s2 evs k bn) W)
    (hdone : ∀ (S : Nat → Prop) (W : World), I evs.length S W → W.heap[w.heap.size]? = some (.deferred (some [])) → Q .normal { act with defers := { target := .collected w.heap.size, args := #[] } :: act.defers } W) :
    (Code.rangeFunc g #[p1, p2] assign body).wp Try.prog Q act w := by
  refine rf_law (n := n) hg rfl hE hbox hcap hok hwf hlen I hI hIo h0 (fun k a' W => ∃ bn, w.heap.size + 2 ≤ bn ∧ W.heap[bn]? = some (.cells (ck (clkAt evs k)).toArray 49 (0, 0)) ∧ a' = nowAct act p1 p2 s1 s2 evs k bn) ?_ ?_ ?_ hdone
  · rintro k a' W o ⟨bn, h1, h2, h3⟩
    exact ⟨bn, h1, (World.putObj_heap_other (by omega)).trans h2, h3⟩
  · intro k W K hlt hK
    have := hassign k W K (fun W' hb hn => hK _ W' hb ⟨W.heap.size, by omega, hn, rfl⟩)
    simpa [encE] using this
  · rintro k S a' W hi ⟨bn, h1, h2, rfl⟩ hlt hE hS hs1 hs2 hl
    exact hbody k S bn W hi h1 h2 hlt hE hS hs1 hs2 hl
/-- What the assignment to the loop's variables does: slot s1 the number, slot s2 a box with the clock. -/
theorem store_new (c : Clk) (W : World) : ((W.alloc (.cells zeros16 49)).heap[W.heap.size]? = some (.cells zeros16 49 (0, 0))) ∧ Below W.heap.size W ((W.alloc (.cells zeros16 49)).setRow W.heap.size (ck c).toArray) ∧ ((W.alloc (.cells zeros16 49)).setRow W.heap.size (ck c).toArray).heap[W.heap.size]? = some (.cells (ck c).toArray 49 (0, 0)) ∧ zeros16.size = (ck c).toArray.size ∧ (ck c).toArray.all (·.oneCell') = true := by
  have h3 := heap_alloc_new W (.cells zeros16 49)
  exact ⟨h3, (((Fr.refl (fun _ => False) W).alloc _).setRow _ _ (.inr (Nat.le_refl _))).below (Nat.le_refl _) (fun _ e => e.elim), setRow_heap _ _ _ _ _ _ h3, by simp [ck_len, zeros16], all_oneCell_toArray (ck_one c)⟩
end Go.Proofs.Ytdgdfpgekccibab
