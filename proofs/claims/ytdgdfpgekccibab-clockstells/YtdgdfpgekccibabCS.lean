import Derived.Test.YtdgdfpgekccibabCR
/-! clocks: Races in memory. -/
namespace Go.Proofs.Ytdgdfpgekccibab
open Go Go.RowKit
def flatR (l : List (Nat × Nat)) : List Value := l.flatMap fun u => [.int .i64 (u.1 : Nat), .int .i64 (u.2 : Nat)]
theorem flatR_snoc (l : List (Nat × Nat)) (u : Nat × Nat) : flatR (l ++ [u]) = flatR l ++ [.int .i64 (u.1 : Nat), .int .i64 (u.2 : Nat)] := by simp [flatR]
/-- What Races holds between two rounds. -/
structure RcI (w0 : World) (B b2 bo b8 b9 mb cap : Nat) (a : Option Addr) (evs : List Ev) (k : Nat) (us : AllU) (R : List (Nat × Nat)) (S : Nat → Prop) (W : World) (m : Nat) (f : Where) (FP : Int → Int → Nat → Prop) (ov : Value) : Prop where
  ev : W.heap[b2]? = some (.cells #[.slice a evs.length cap] 22 (0, 0))
  out : W.heap[bo]? = some (.cells #[ov] 41 (0, 0))
  ks : W.heap[b8]? = some (.cells kindsA 65 (0, 0))
  mp : W.heap[b9]? = some (.cells #[.map (some mb)] 67 (0, 0))
  th : ThAt W mb m f
  mle : m ≤ k
  rows : W.ownsRow 0 75 2 ov R.length (flatR R)
  ovB : ∀ g, ov.ownBlock = some g → B + 2 ≤ g ∧ ¬ S g ∧ ∀ o n, f o n ≠ none → ¬ FP o n g
  cells : ∀ o n cb, f o n = some cb → CellAt W cb (us o n) (FP o n)
  no : ∀ o n, f o n = none → us o n = []
  fpB : ∀ o n b, f o n ≠ none → FP o n b → B + 2 ≤ b ∧ ¬ S b
  fpD : ∀ o n o' n' b, f o n ≠ none → f o' n' ≠ none → FP o n b → FP o' n' b → o = o' ∧ n = n'
  nS : ¬ S b2 ∧ ¬ S bo ∧ ¬ S b8 ∧ ¬ S b9 ∧ ¬ S mb
  low : ∀ b, S b → w0.heap.size ≤ b
  bel : Below w0.heap.size w0 W
/-- Its blocks. -/
def RcOwn (b2 bo b8 b9 mb : Nat) (f : Where) (FP : Int → Int → Nat → Prop) (ov : Value) (b : Nat) : Prop := b = b2 ∨ b = bo ∨ b = b8 ∨ b = b9 ∨ b = mb ∨ ov.ownBlock = some b ∨ ∃ o n, f o n ≠ none ∧ FP o n b
section
variable {w0 : World} {B b2 bo b8 b9 mb cap : Nat} {a : Option Addr} {evs : List Ev} {k : Nat} {us : AllU} {R : List (Nat × Nat)} {S : Nat → Prop} {W : World} {m : Nat} {f : Where} {FP : Int → Int → Nat → Prop} {ov : Value}
theorem ownsRow_lt {w : World} {lo : Nat} {e : TypeId} {size n : Nat} {v : Value} {xs : List Value} (h : w.ownsRow lo e size v n xs) {g : Nat} (hg : v.ownBlock = some g) : g < w.heap.size ∧ ∃ cur, w.heap[g]? = some (.cells cur e (0, 0)) := by
  obtain ⟨_, h2⟩ := h
  rcases h2 with ⟨hv, _⟩ | ⟨g', cap', cur, hv, _, hh, _⟩
  · rw [hv] at hg; cases hg
  · rw [hv] at hg; cases hg; exact ⟨(Array.getElem?_eq_some_iff.1 hh).1, _, hh⟩
theorem RcI.lt (h : RcI w0 B b2 bo b8 b9 mb cap a evs k us R S W m f FP ov) {b : Nat} (hb : RcOwn b2 bo b8 b9 mb f FP ov b) : b < W.heap.size := by
  rcases hb with rfl | rfl | rfl | rfl | rfl | hb | ⟨o, n, h1, h2⟩
  · exact (Array.getElem?_eq_some_iff.1 h.ev).1
  · exact (Array.getElem?_eq_some_iff.1 h.out).1
  · exact (Array.getElem?_eq_some_iff.1 h.ks).1
  · exact (Array.getElem?_eq_some_iff.1 h.mp).1
  · exact h.th.lt
  · exact (ownsRow_lt h.rows hb).1
  · cases hf : f o n with
    | none => exact absurd hf h1
    | some cb => exact (h.cells o n cb hf).lt b h2
theorem RcI.keep {S' : Nat → Prop} {W' : World} (h : RcI w0 B b2 bo b8 b9 mb cap a evs k us R S W m f FP ov) (hs : W.heap.size ≤ W'.heap.size) (hk : ∀ b, RcOwn b2 bo b8 b9 mb f FP ov b → W'.heap[b]? = W.heap[b]?) (hS : ∀ b, RcOwn b2 bo b8 b9 mb f FP ov b → ¬ S b → ¬ S' b) (hl : ∀ b, S' b → w0.heap.size ≤ b) (hb : Below w0.heap.size w0 W') : RcI w0 B b2 bo b8 b9 mb cap a evs k us R S' W' m f FP ov where
  ev := (hk _ (.inl rfl)).trans h.ev
  out := (hk _ (.inr (.inl rfl))).trans h.out
  ks := (hk _ (.inr (.inr (.inl rfl)))).trans h.ks
  mp := (hk _ (.inr (.inr (.inr (.inl rfl))))).trans h.mp
  th := h.th.keep (hk _ (.inr (.inr (.inr (.inr (.inl rfl))))))
  mle := h.mle
  rows := ownsRow_keep h.rows (fun g hg => hk _ (.inr (.inr (.inr (.inr (.inr (.inl hg)))))))
  ovB := fun g hg => ⟨(h.ovB g hg).1, hS g (.inr (.inr (.inr (.inr (.inr (.inl hg)))))) (h.ovB g hg).2.1, (h.ovB g hg).2.2⟩
  cells := fun o n cb hf => (h.cells o n cb hf).keep hs (fun b hb => hk b (.inr (.inr (.inr (.inr (.inr (.inr ⟨o, n, by rw [hf]; simp, hb⟩)))))))
  no := h.no
  fpB := fun o n b hf hb => ⟨(h.fpB o n b hf hb).1, hS b (.inr (.inr (.inr (.inr (.inr (.inr ⟨o, n, hf, hb⟩)))))) (h.fpB o n b hf hb).2⟩
  fpD := h.fpD
  nS := ⟨hS _ (.inl rfl) h.nS.1, hS _ (.inr (.inl rfl)) h.nS.2.1, hS _ (.inr (.inr (.inl rfl))) h.nS.2.2.1, hS _ (.inr (.inr (.inr (.inl rfl)))) h.nS.2.2.2.1, hS _ (.inr (.inr (.inr (.inr (.inl rfl))))) h.nS.2.2.2.2⟩
  low := hl
  bel := hb
theorem RcI.nSo (h : RcI w0 B b2 bo b8 b9 mb cap a evs k us R S W m f FP ov) {b : Nat} (hb : RcOwn b2 bo b8 b9 mb f FP ov b) : ¬ S b := by
  rcases hb with rfl | rfl | rfl | rfl | rfl | hb | ⟨o, n, h1, h2⟩
  · exact h.nS.1
  · exact h.nS.2.1
  · exact h.nS.2.2.1
  · exact h.nS.2.2.2.1
  · exact h.nS.2.2.2.2
  · exact (h.ovB b hb).2.1
  · exact (h.fpB o n b h1 h2).2
/-- A step of a callee that makes memory alone. -/
theorem RcI.below {W' : World} (h : RcI w0 B b2 bo b8 b9 mb cap a evs k us R S W m f FP ov) (hb : Below W.heap.size W W') : RcI w0 B b2 bo b8 b9 mb cap a evs k us R S W' m f FP ov :=
  h.keep hb.size (fun b hb' => hb.block b (h.lt hb')) (fun _ _ e => e) h.low (h.bel.trans (hb.mono h.bel.size))
/-- The thing's cell is found, or made. -/
theorem RcI.tin {W' : World} {o n : Int} {cb m' : Nat} (h : RcI w0 B b2 bo b8 b9 mb cap a evs k us R S W m f FP ov) (hSl : ∀ b, S b → b < W.heap.size) (hlB : B + 2 ≤ W.heap.size) (hw0 : w0.heap.size ≤ mb) (hmk : m' ≤ k + 1)
    (h1 : ThAt W' mb m' (updW f o n cb)) (hF : Fr (· = mb) W W') (hc : f o n = some cb ∨ (f o n = none ∧ W.heap.size ≤ cb ∧ W'.heap[cb]? = some (.cells ZS 72 (0, 0)))) (hmb : mb ≠ b2 ∧ mb ≠ bo ∧ mb ≠ b8 ∧ mb ≠ b9 ∧ mb < B) :
    ∃ FP', RcI w0 B b2 bo b8 b9 mb cap a evs (k + 1) us R S W' m' (updW f o n cb) FP' ov := by
  have hmbo : ov.ownBlock ≠ some mb := fun e => by have := (h.ovB mb e).1; omega
  have hk : ∀ b, RcOwn b2 bo b8 b9 mb f FP ov b → b ≠ mb → W'.heap[b]? = W.heap[b]? := fun b hb hne => hF.block b (h.lt hb) hne
  have hbel : Below w0.heap.size w0 W' := h.bel.trans (hF.below h.bel.size (fun i e => by subst e; exact hw0))
  rcases hc with hc | ⟨hn, hlt, hz⟩
  · have hu : updW f o n cb = f := by
      funext o' n'
      unfold updW
      split
      · next e => rw [e.1, e.2, hc]
      · rfl
    rw [hu] at h1 ⊢
    refine ⟨FP, ⟨(hk _ (.inl rfl) hmb.1.symm).trans h.ev, (hk _ (.inr (.inl rfl)) hmb.2.1.symm).trans h.out, (hk _ (.inr (.inr (.inl rfl))) hmb.2.2.1.symm).trans h.ks, (hk _ (.inr (.inr (.inr (.inl rfl)))) hmb.2.2.2.1.symm).trans h.mp, h1, hmk, ownsRow_keep h.rows (fun g hg => hk _ (.inr (.inr (.inr (.inr (.inr (.inl hg)))))) (fun e => hmbo (e ▸ hg))), h.ovB, fun o' n' cb' hf => ?_, h.no, h.fpB, h.fpD, h.nS, h.low, hbel⟩⟩
    exact (h.cells o' n' cb' hf).keep hF.size (fun b hb => hk b (.inr (.inr (.inr (.inr (.inr (.inr ⟨o', n', by rw [hf]; simp, hb⟩)))))) (fun e => by have := (h.fpB o' n' b (by rw [hf]; simp) hb).1; omega))
  · have hold : ∀ o' n', f o' n' ≠ none → ¬ (o' = o ∧ n' = n) := fun o' n' hf e => hf (by rw [e.1, e.2]; exact hn)
    have hun : ∀ o' n', updW f o n cb o' n' ≠ none → (o' = o ∧ n' = n) ∨ (¬ (o' = o ∧ n' = n) ∧ f o' n' ≠ none) := fun o' n' hf => by
      by_cases e : o' = o ∧ n' = n
      · exact .inl e
      · rw [updW_other _ _ e] at hf
        exact .inr ⟨e, hf⟩
    obtain ⟨FP', hFP⟩ : ∃ FP' : Int → Int → Nat → Prop, FP' = fun o' n' b => if o' = o ∧ n' = n then b = cb else FP o' n' b := ⟨_, rfl⟩
    have fpn : ∀ b, FP' o n b ↔ b = cb := fun b => by rw [hFP]; simp
    have fpo : ∀ o' n' b, ¬ (o' = o ∧ n' = n) → (FP' o' n' b ↔ FP o' n' b) := fun o' n' b e => by rw [hFP]; simp [e]
    have fplt : ∀ o' n' b, f o' n' ≠ none → FP o' n' b → b < W.heap.size := fun o' n' b hf hb => h.lt (.inr (.inr (.inr (.inr (.inr (.inr ⟨o', n', hf, hb⟩))))))
    have hcB : cb < W'.heap.size := (Array.getElem?_eq_some_iff.1 hz).1
    refine ⟨FP', ⟨(hk _ (.inl rfl) hmb.1.symm).trans h.ev, (hk _ (.inr (.inl rfl)) hmb.2.1.symm).trans h.out, (hk _ (.inr (.inr (.inl rfl))) hmb.2.2.1.symm).trans h.ks, (hk _ (.inr (.inr (.inr (.inl rfl)))) hmb.2.2.2.1.symm).trans h.mp, h1, hmk, ownsRow_keep h.rows (fun g hg => hk _ (.inr (.inr (.inr (.inr (.inr (.inl hg)))))) (fun e => hmbo (e ▸ hg))), fun g hg => ⟨(h.ovB g hg).1, (h.ovB g hg).2.1, fun o' n' hf hb => ?_⟩, fun o' n' cb' hf => ?_, fun o' n' hf => ?_, fun o' n' b hf hb => ?_, fun o1 n1 o2 n2 b hf1 hf2 hb1 hb2 => ?_, h.nS, h.low, hbel⟩⟩
    · rcases hun o' n' hf with ⟨rfl, rfl⟩ | ⟨e, hf⟩
      · have := (fpn g).1 hb
        have := (ownsRow_lt h.rows hg).1
        omega
      · exact (h.ovB g hg).2.2 o' n' hf ((fpo o' n' g e).1 hb)
    · by_cases e : o' = o ∧ n' = n
      · obtain ⟨rfl, rfl⟩ := e
        rw [updW_same] at hf
        cases hf
        rw [h.no _ _ hn]
        exact ⟨.slice none 0 0, [], fun _ => .slice none 0 0, fun _ => .slice none 0 0, hz, ⟨rfl, .inl ⟨rfl, rfl⟩⟩, (fun i u hu => by simp at hu), (fun i u hu => by simp at hu), (fun i u hu => by simp at hu), (fpn cb).2 rfl, (fun g hg => by cases hg), (fun i g hi => by simp at hi), (fun i g hi => by simp at hi), (fun i j g hi => by simp at hi), (fun i j g hi => by simp at hi), (fun i j g hi => by simp at hi), fun b hb => by rw [(fpn b).1 hb]; exact hcB⟩
      · rw [updW_other _ _ e] at hf
        have hfn : f o' n' ≠ none := by rw [hf]; simp
        have := (h.cells o' n' cb' hf).keep (w' := W') hF.size (fun b hb => hk b (.inr (.inr (.inr (.inr (.inr (.inr ⟨o', n', hfn, hb⟩)))))) (fun e => by have := (h.fpB o' n' b hfn hb).1; omega))
        have hee : FP' o' n' = FP o' n' := by funext b; exact propext (fpo o' n' b e)
        rw [hee]
        exact this
    · by_cases e : o' = o ∧ n' = n
      · rw [e.1, e.2, updW_same] at hf; cases hf
      · rw [updW_other _ _ e] at hf; exact h.no _ _ hf
    · rcases hun o' n' hf with ⟨rfl, rfl⟩ | ⟨e, hf⟩
      · rw [(fpn b).1 hb]
        exact ⟨by omega, fun e => by have := hSl _ e; omega⟩
      · exact h.fpB o' n' b hf ((fpo o' n' b e).1 hb)
    · rcases hun o1 n1 hf1 with e1 | ⟨e1, hf1'⟩
      · rcases hun o2 n2 hf2 with e2 | ⟨e2, hf2'⟩
        · exact ⟨e1.1.trans e2.1.symm, e1.2.trans e2.2.symm⟩
        · rw [e1.1, e1.2] at hb1
          have q1 := (fpn b).1 hb1
          have q2 := fplt o2 n2 b hf2' ((fpo o2 n2 b e2).1 hb2)
          omega
      · rcases hun o2 n2 hf2 with e2 | ⟨e2, hf2'⟩
        · rw [e2.1, e2.2] at hb2
          have q1 := (fpn b).1 hb2
          have q2 := fplt o1 n1 b hf1' ((fpo o1 n1 b e1).1 hb1)
          omega
        · exact h.fpD _ _ _ _ b hf1' hf2' ((fpo o1 n1 b e1).1 hb1) ((fpo o2 n2 b e2).1 hb2)
/-- A use is noted. -/
theorem RcI.use {W' : World} {o n : Int} {cb : Nat} {us' : List Usr} {P' : Nat → Prop} (h : RcI w0 B b2 bo b8 b9 mb cap a evs k us R S W m f FP ov) (hSl : ∀ b, S b → b < W.heap.size) (hlB : B + 2 ≤ W.heap.size) (hw0 : w0.heap.size ≤ B) (hf : f o n = some cb) (hfx : b2 < B ∧ bo < B ∧ b8 < B ∧ b9 < B ∧ mb < B)
    (h1 : CellAt W' cb us' P') (hP : ∀ b, P' b → FP o n b ∨ W.heap.size ≤ b) (hF : Fr (FP o n) W W') :
    ∃ FP', RcI w0 B b2 bo b8 b9 mb cap a evs k (updA us o n us') R S W' m f FP' ov := by
  have hfn : f o n ≠ none := by rw [hf]; simp
  have hfp : ∀ b, FP o n b → B + 2 ≤ b := fun b hb => (h.fpB o n b hfn hb).1
  have hlow : ∀ b, b < B → b < W.heap.size → W'.heap[b]? = W.heap[b]? := fun b hb hl => hF.block b hl (fun e => by have := hfp b e; omega)
  have hoth : ∀ o' n', f o' n' ≠ none → ¬ (o' = o ∧ n' = n) → ∀ b, FP o' n' b → W'.heap[b]? = W.heap[b]? := fun o' n' hf' e b hb => hF.block b (h.lt (.inr (.inr (.inr (.inr (.inr (.inr ⟨o', n', hf', hb⟩))))))) (fun e' => e (h.fpD _ _ _ _ b hf' hfn hb e'))
  have hbel : Below w0.heap.size w0 W' := h.bel.trans (hF.below h.bel.size (fun i e => by have := hfp i e; omega))
  obtain ⟨FP', hFP⟩ : ∃ FP' : Int → Int → Nat → Prop, FP' = fun o' n' b => if o' = o ∧ n' = n then P' b else FP o' n' b := ⟨_, rfl⟩
  have fpn : ∀ b, FP' o n b ↔ P' b := fun b => by rw [hFP]; simp
  have fpo : ∀ o' n' b, ¬ (o' = o ∧ n' = n) → (FP' o' n' b ↔ FP o' n' b) := fun o' n' b e => by rw [hFP]; simp [e]
  have fplt : ∀ o' n' b, f o' n' ≠ none → FP o' n' b → b < W.heap.size := fun o' n' b hf hb => h.lt (.inr (.inr (.inr (.inr (.inr (.inr ⟨o', n', hf, hb⟩))))))
  have hnew : ∀ b, P' b → ¬ FP o n b → W.heap.size ≤ b := fun b hb hn => (hP b hb).resolve_left hn
  refine ⟨FP', ⟨(hlow _ hfx.1 (h.lt (.inl rfl))).trans h.ev, (hlow _ hfx.2.1 (h.lt (.inr (.inl rfl)))).trans h.out, (hlow _ hfx.2.2.1 (h.lt (.inr (.inr (.inl rfl))))).trans h.ks, (hlow _ hfx.2.2.2.1 (h.lt (.inr (.inr (.inr (.inl rfl)))))).trans h.mp, h.th.keep (hlow _ hfx.2.2.2.2 h.th.lt), h.mle, ownsRow_keep h.rows (fun g hg => hF.block g (ownsRow_lt h.rows hg).1 (fun e => (h.ovB g hg).2.2 o n hfn e)), fun g hg => ⟨(h.ovB g hg).1, (h.ovB g hg).2.1, fun o' n' hf' hb => ?_⟩, fun o' n' cb' hf' => ?_, fun o' n' hf' => ?_, fun o' n' b hf' hb => ?_, fun o1 n1 o2 n2 b hf1 hf2 hb1 hb2 => ?_, h.nS, h.low, hbel⟩⟩
  · by_cases e : o' = o ∧ n' = n
    · obtain ⟨rfl, rfl⟩ := e
      rcases hP g ((fpn g).1 hb) with q | q
      · exact (h.ovB g hg).2.2 _ _ hf' q
      · have := (ownsRow_lt h.rows hg).1; omega
    · exact (h.ovB g hg).2.2 o' n' hf' ((fpo o' n' g e).1 hb)
  · by_cases e : o' = o ∧ n' = n
    · obtain ⟨rfl, rfl⟩ := e
      rw [hf] at hf'
      cases hf'
      rw [updA_same]
      have hee : FP' o' n' = P' := by funext b; exact propext (fpn b)
      rw [hee]
      exact h1
    · rw [updA_other _ _ e]
      have hee : FP' o' n' = FP o' n' := by funext b; exact propext (fpo o' n' b e)
      rw [hee]
      exact (h.cells o' n' cb' hf').keep hF.size (fun b hb => hoth o' n' (by rw [hf']; simp) e b hb)
  · by_cases e : o' = o ∧ n' = n
    · rw [e.1, e.2] at hf'; exact absurd hf' hfn
    · rw [updA_other _ _ e]; exact h.no _ _ hf'
  · by_cases e : o' = o ∧ n' = n
    · obtain ⟨rfl, rfl⟩ := e
      rcases hP b ((fpn b).1 hb) with q | q
      · exact h.fpB _ _ b hf' q
      · exact ⟨by omega, fun e => by have := hSl _ e; omega⟩
    · exact h.fpB o' n' b hf' ((fpo o' n' b e).1 hb)
  · by_cases e1 : o1 = o ∧ n1 = n <;> by_cases e2 : o2 = o ∧ n2 = n
    · exact ⟨e1.1.trans e2.1.symm, e1.2.trans e2.2.symm⟩
    · exfalso
      obtain ⟨rfl, rfl⟩ := e1
      have q2 := (fpo o2 n2 b e2).1 hb2
      rcases hP b ((fpn b).1 hb1) with q | q
      · exact e2 (h.fpD _ _ _ _ b hf2 hfn q2 q)
      · have := fplt o2 n2 b hf2 q2; omega
    · exfalso
      obtain ⟨rfl, rfl⟩ := e2
      have q2 := (fpo o1 n1 b e1).1 hb1
      rcases hP b ((fpn b).1 hb2) with q | q
      · exact e1 (h.fpD _ _ _ _ b hf1 hfn q2 q)
      · have := fplt o1 n1 b hf1 q2; omega
    · exact h.fpD _ _ _ _ b hf1 hf2 ((fpo o1 n1 b e1).1 hb1) ((fpo o2 n2 b e2).1 hb2)
/-- A race is told. -/
theorem RcI.race {W1 w4 : World} {g4 c4 : Nat} {u : Nat × Nat} (h : RcI w0 B b2 bo b8 b9 mb cap a evs k us R S W m f FP ov) (hSl : ∀ b, S b → b < W.heap.size) (hlB : B + 2 ≤ W.heap.size) (hw0 : w0.heap.size ≤ bo) (hfx : b2 < B ∧ bo < B ∧ b8 < B ∧ b9 < B ∧ mb < B) (hne : b2 ≠ bo ∧ b8 ≠ bo ∧ b9 ≠ bo ∧ mb ≠ bo)
    (hB : Below W.heap.size W W1) (hown : w4.ownsRow 0 75 2 (.slice (some ⟨g4, 0, none⟩) (R.length + 1) c4) (R.length + 1) (flatR R ++ [.int .i64 (u.1 : Nat), .int .i64 (u.2 : Nat)])) (hgrow : W1.grownBy w4 ov.ownBlock) (hat : ov.ownBlock = some g4 ∨ g4 = W1.heap.size) (_hglt : g4 < w4.heap.size) :
    (w4.cell? ⟨bo, 0, none⟩ = some ov ∧ w4.frozen? ⟨bo, 0, none⟩ = false) ∧ RcI w0 B b2 bo b8 b9 mb cap a evs k us (R ++ [u]) S (w4.setCell ⟨bo, 0, none⟩ (.slice (some ⟨g4, 0, none⟩) (R.length + 1) c4)) m f FP (.slice (some ⟨g4, 0, none⟩) (R.length + 1) c4) ∧ (∀ b, b < W.heap.size → b ≠ bo → ov.ownBlock ≠ some b → (w4.setCell ⟨bo, 0, none⟩ (.slice (some ⟨g4, 0, none⟩) (R.length + 1) c4)).heap[b]? = W.heap[b]?) ∧ W.heap.size ≤ (w4.setCell ⟨bo, 0, none⟩ (.slice (some ⟨g4, 0, none⟩) (R.length + 1) c4)).heap.size := by
  obtain ⟨nv, hnv⟩ : ∃ nv, (.slice (some ⟨g4, 0, none⟩) (R.length + 1) c4 : Value) = nv := ⟨_, rfl⟩
  have hnb : nv.ownBlock = some g4 := by rw [← hnv]; rfl
  rw [hnv] at hown ⊢
  have hk4 : ∀ b, b < W.heap.size → ov.ownBlock ≠ some b → w4.heap[b]? = W.heap[b]? := fun b hb hn => (hgrow.block b (Nat.lt_of_lt_of_le hb hB.size) (fun e => hn e.symm)).trans (hB.block b hb)
  have hov : ∀ b, b < B → ov.ownBlock ≠ some b := fun b hb e => by have := (h.ovB b e).1; omega
  have hk5 : ∀ b, b ≠ bo → (w4.setCell ⟨bo, 0, none⟩ nv).heap[b]? = w4.heap[b]? := fun b hb => Below.heap_setCell _ _ _ _ hb
  have hkk : ∀ b, b < W.heap.size → b ≠ bo → ov.ownBlock ≠ some b → (w4.setCell ⟨bo, 0, none⟩ nv).heap[b]? = W.heap[b]? := fun b h1 h2 h3 => (hk5 b h2).trans (hk4 b h1 h3)
  have hs5 : (w4.setCell ⟨bo, 0, none⟩ nv).heap.size = w4.heap.size := by simp [World.setCell]
  have hs4 : W.heap.size ≤ w4.heap.size := Nat.le_trans hB.size hgrow.size
  have hbo := (hk4 bo (h.lt (.inr (.inl rfl))) (hov _ hfx.2.1)).trans h.out
  have hg4 : B + 2 ≤ g4 := by
    rcases hat with e | e
    · exact (h.ovB g4 e).1
    · have := hB.size; omega
  have hfpk : ∀ o n b, f o n ≠ none → FP o n b → (w4.setCell ⟨bo, 0, none⟩ nv).heap[b]? = W.heap[b]? := fun o n b hf hb => hkk b (h.lt (.inr (.inr (.inr (.inr (.inr (.inr ⟨o, n, hf, hb⟩))))))) (fun e => by have := (h.fpB o n b hf hb).1; omega) (fun e => (h.ovB b e).2.2 o n hf hb)
  refine ⟨⟨by simp [World.cell?, hbo], by simp [World.frozen?, hbo]⟩, ⟨(hkk _ (h.lt (.inl rfl)) hne.1 (hov _ hfx.1)).trans h.ev, by simp [World.setCell, Array.getElem?_modify, hbo], (hkk _ (h.lt (.inr (.inr (.inl rfl)))) hne.2.1 (hov _ hfx.2.2.1)).trans h.ks, (hkk _ (h.lt (.inr (.inr (.inr (.inl rfl))))) hne.2.2.1 (hov _ hfx.2.2.2.1)).trans h.mp, h.th.keep (hkk _ h.th.lt hne.2.2.2 (hov _ hfx.2.2.2.2)), h.mle, ?_, fun g hg => ?_, fun o n cb hf => (h.cells o n cb hf).keep (by rw [hs5]; exact hs4) (fun b hb => hfpk o n b (by rw [hf]; simp) hb), h.no, h.fpB, h.fpD, h.nS, h.low, ?_⟩, hkk, by rw [hs5]; exact hs4⟩
  · rw [flatR_snoc, List.length_append]
    exact ownsRow_keep hown (fun g hg => by rw [hnb] at hg; cases hg; exact hk5 _ (by omega))
  · rw [hnb] at hg
    cases hg
    refine ⟨hg4, ?_, fun o n hf hb => ?_⟩
    · rcases hat with e | e
      · exact (h.ovB _ e).2.1
      · exact fun e' => by have := hSl _ e'; have := hB.size; omega
    · rcases hat with e | e
      · exact (h.ovB _ e).2.2 o n hf hb
      · have := h.lt (.inr (.inr (.inr (.inr (.inr (.inr ⟨o, n, hf, hb⟩)))))); have := hB.size; omega
  · have hb4 : Below w0.heap.size w0 w4 := (h.bel.trans (hB.mono h.bel.size)).grown hgrow (Nat.le_trans h.bel.size hB.size) (fun j e => by have := (h.ovB j e).1; omega)
    exact hb4.setCell (p := ⟨bo, 0, none⟩) hw0 _
end
end Go.Proofs.Ytdgdfpgekccibab
