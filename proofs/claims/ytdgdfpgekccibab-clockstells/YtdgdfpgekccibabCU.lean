import Derived.Test.YtdgdfpgekccibabCS
import Derived.Deep.RegionHeld3
/-! A drawn region in a round: what holds of it outside a round holds within. -/
namespace Go.Proofs.Ytdgdfpgekccibab
open Go Go.RowKit Go.Shelf
/-- Q at a plain end alone. -/
def Plain (Q : Exit → Act → World → Prop) (e : Exit) (a : Act) (w : World) : Prop := e = .normal ∧ Q .normal a w
theorem plain_out (Q : Exit → Act → World → Prop) : ¬ LetsOut (Plain Q) := fun ⟨_, _, h, _⟩ => by cases h
theorem Plain.imp {Q : Exit → Act → World → Prop} : ∀ (e : Exit) (a : Act) (w : World), Plain Q e a w → Q e a w := fun e a w h => by
  obtain ⟨rfl, h⟩ := h
  exact h
theorem Plain.put {Q : Exit → Act → World → Prop} {c : List PanicEntry} {a a' : Act} {w : World} (h : Plain Q (.panic c) a w) : Plain Q (.panic c) a' w := by cases h.1
theorem upon_round {n l : Nat} {P : Program} {o : Oper} {a : Act} {K K' : Act → World → Prop} {Q : Exit → Act → World → Prop} (hK : ∀ a w, K a w → K' a w) (r : Result Next) (h : o.upon P a K Q r) : o.uponIn (Fence.wide.inRound l) n P a K' Q r := by
  match r, h with
  | .ok (.value v) w', h => exact hK _ _ h
  | .ok .skip w', h => exact hK _ _ h
  | .ok (.defer d) w', h => exact hK _ _ h
  | .ok (.enter f args) w', h =>
    refine ⟨fun e => by simp [Fence.wide] at e, CallsIn.inRound l (callsIn_wide.2 (Calls.mono h ?_))⟩
    intro e w'' q
    cases e with
    | returned v => exact hK _ _ q
    | panicked c => exact q
    | outgrown => exact q
  | .ok (.row row args) w', h =>
    refine ⟨fun e => by simp [Fence.wide] at e, fun c cs _ => ?_⟩
    obtain ⟨v, w'', q, s⟩ := h c cs
    exact ⟨v, w'', hK _ _ q, stepsIn_wide.2 s⟩
  | .halt (.panic v) w', h => exact h
theorem wpAnyIn_round {n l : Nat} {P : Program} {md : Region.Mode} {ops : Array Oper} {Q : Exit → Act → World → Prop} (hd : ∀ (i : Nat) (o : Oper), ops[i]? = some o → ∀ c, o.op ≠ .defer c) (hL : ¬ LetsOut Q) : ∀ (fuel : Nat) (listed : Array Bool) (a : Act) (w : World), wpAny P md ops Q fuel listed a w → wpAnyIn (Fence.wide.inRound l) n P md ops Q fuel listed a w
  | 0, _, _, _, h => h
  | fuel + 1, listed, a, w, h => by
    refine ⟨h.1, fun i hi => ?_⟩
    have h2 := h.2 i hi
    unfold wpOp at h2
    unfold wpOpIn
    cases ho : ops[i]? with
    | none => rw [ho] at h2; exact wpAnyIn_round hd hL fuel _ _ _ h2
    | some o =>
      rw [ho] at h2
      simp only at h2 ⊢
      split
      · next hw =>
        rw [if_pos hw] at h2
        rcases h2 with h2 | h2
        · refine ⟨fun f _ => trivial, ?_⟩
          rw [Oper.semAt_plain _ _ _ (hd i o ho)]
          exact upon_round (fun a w => wpAnyIn_round hd hL fuel _ a w) _ h2
        · exact absurd h2.2 hL
      · next hw =>
        rw [if_neg hw] at h2
        exact ⟨fun f _ => trivial, wpAnyIn_round hd hL fuel _ _ _ h2⟩
/-- Is an operation no defer? -/
def noDefer (o : Oper) : Bool := match o.op with
  | .defer _ => false
  | _ => true
/-- A drawn region within a round, by the moves of a walk outside one. -/
theorem region_round {n l : Nat} {P : Program} {id : Nat} {ops : Array Oper} {Q : Exit → Act → World → Prop} {a : Act} {w : World} (S : World → Prop) (hm : P.follows .mixedOrders = true) (hd : ops.all noDefer = true) (hS : S w.drew)
    (h : S w.drew → wpAnyH P .any ops (Plain Q) S ops.size (Array.replicate ops.size false) a w.drew) : (Code.region id ops true).wpIn (Fence.wide.inRound l) n P Q a w := by
  refine wpIn_mono ?_ Plain.imp
  refine wpIn_region_any hm (wpAnyIn_round (fun i o ho c e => ?_) (plain_out Q) _ _ _ _ (wpAny_of_held _ _ _ _ (h hS)))
  have := Array.all_eq_true_iff_forall_mem.1 hd o (Array.mem_of_getElem? ho)
  unfold noDefer at this
  rw [e] at this
  cases this
/-- A cell's own blocks alone, which are told by their types. -/
theorem CellAt.shrink {w : World} {cb : Nat} {us : List Usr} {P : Nat → Prop} (h : CellAt w cb us P) : ∃ P0 : Nat → Prop, CellAt w cb us P0 ∧ (∀ b, P0 b → P b) ∧ ∀ b, P0 b → ∃ cs t, w.heap[b]? = some (.cells cs t (0, 0)) ∧ (t = 72 ∨ t = 95 ∨ t = 78) := by
  obtain ⟨sv, xs, va, vw, h⟩ := h
  obtain ⟨P0, hP0⟩ : ∃ P0 : Nat → Prop, ∀ b, P0 b ↔ b = cb ∨ sv.ownBlock = some b ∨ (∃ i, i < us.length ∧ (va i).ownBlock = some b) ∨ ∃ i, i < us.length ∧ (vw i).ownBlock = some b := ⟨_, fun _ => Iff.rfl⟩
  have hs : ∀ b, P0 b → P b := fun b hb => by
    rcases (hP0 b).1 hb with rfl | hb | ⟨i, hi, hb⟩ | ⟨i, hi, hb⟩
    · exact h.pc
    · exact h.ps b hb
    · exact h.pa i b hi hb
    · exact h.pw i b hi hb
  refine ⟨P0, ⟨sv, xs, va, vw, h.box, h.row, h.cel, h.ra, h.rv, (hP0 _).2 (.inl rfl), fun g hg => (hP0 _).2 (.inr (.inl hg)), fun i g hi hg => (hP0 _).2 (.inr (.inr (.inl ⟨i, hi, hg⟩))), fun i g hi hg => (hP0 _).2 (.inr (.inr (.inr ⟨i, hi, hg⟩))), h.da, h.dw, h.dd, fun b hb => h.lt b (hs b hb)⟩, hs, fun b hb => ?_⟩
  rcases (hP0 b).1 hb with rfl | hb | ⟨i, hi, hb⟩ | ⟨i, hi, hb⟩
  · exact ⟨_, _, h.box, .inl rfl⟩
  · obtain ⟨_, cur, hc⟩ := ownsRow_lt h.row hb
    exact ⟨_, _, hc, .inr (.inl rfl)⟩
  · obtain ⟨_, cur, hc⟩ := ownsRow_lt (h.ra i _ (List.getElem?_eq_getElem hi)) hb
    exact ⟨_, _, hc, .inr (.inr rfl)⟩
  · obtain ⟨_, cur, hc⟩ := ownsRow_lt (h.rv i _ (List.getElem?_eq_getElem hi)) hb
    exact ⟨_, _, hc, .inr (.inr rfl)⟩
end Go.Proofs.Ytdgdfpgekccibab
