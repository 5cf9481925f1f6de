import Derived.Test.YtpdcinicnekeoaaLF
import Derived.Test.YtpdcinicnekeoaaLD
import Derived.Test.YtpdcinicnekeoaaPC
/-! WatchFollows: what is owed, in memory. -/
namespace Go.Proofs.Ytpdcinicnekeoaa
open Go Go.RowKit Go.Watch
theorem flatC_drop : (l : List Chg) → (m : Nat) → flatC (l.drop m) = (flatC l).drop (m * 4)
  | l, 0 => by simp
  | [], m + 1 => by simp [flatC]
  | c :: l, m + 1 => by
    have := flatC_drop l m
    rw [List.drop_succ_cons, this]
    rw [show flatC (c :: l) = chgCs c ++ flatC l from by simp [flatC], List.drop_append]
    have h4 : (chgCs c).length = 4 := rfl
    have hd : (chgCs c).drop ((m + 1) * 4) = [] := List.drop_eq_nil_of_le (by rw [h4]; omega)
    rw [hd, h4, List.nil_append, show (m + 1) * 4 - 4 = m * 4 from by omega]
theorem rangeAt_drop {w : World} {b o : Nat} {xs : List Value} (h : w.rangeAt b o xs) (k : Nat) : w.rangeAt b (o + k) (xs.drop k) := fun j v hv => by
  rw [List.getElem?_drop] at hv
  have := h _ v hv
  rw [← Nat.add_assoc] at this
  exact this
theorem Rw.rest {w : World} {lo : Nat} {a : Option Addr} {n cap : Nat} {l : List Chg} (h : Rw w lo 4 a n cap (flatC l)) (m : Nat) (hm : m ≤ n) : Rw w lo 4 (advA a m 4 cap) (n - m) (cap - m) (flatC (l.drop m)) := by
  have hle := h.le
  refine ⟨by rw [flatC_drop, List.length_drop, h.len]; omega, by omega, by have := h.mx; unfold maxLen at this ⊢; omega, ?_⟩
  rcases h.pt with h0 | ⟨b, o, rfl, h1, h2, h3, h4⟩
  · exact .inl (by omega)
  · by_cases hc : cap = m
    · exact .inl (by omega)
    · refine .inr ⟨b, o + m * 4, by unfold advA; rw [if_neg hc]; simp [add_plain], h1, h2, fun j hj => ?_, by rw [flatC_drop]; exact rangeAt_drop h4 _⟩
      have := h3 (m * 4 + j) (by omega)
      rw [← Nat.add_assoc] at this
      exact this
theorem blk_adv {a : Option Addr} {m s cap b : Nat} (h : blkOf (advA a m s cap) b) : blkOf a b := by
  unfold advA at h
  split at h
  · exact h
  · obtain ⟨o, s', e⟩ := h
    cases a with
    | none => cases e
    | some ad =>
      obtain ⟨xb, xo, xs⟩ := ad
      simp only [Option.map_some, Option.some.injEq] at e
      have hb : xb = b := by
        have := congrArg Addr.block e
        unfold Addr.add at this
        split at this
        · exact this
        · exact this
      subst hb
      exact ⟨xo, xs, rfl⟩
/-- Limits in memory. -/
def LimsAt (w : World) (a : Option Addr) (l : List Int) : Prop := ∀ (j : Nat) x, l[j]? = some x → ∃ b o, a = some ⟨b, o, none⟩ ∧ w.cell? ⟨b, o + j, none⟩ = some (.int .i64 x)
theorem LimsAt.below {w w' : World} {a : Option Addr} {l : List Int} (h : LimsAt w a l) (hb : Below w.heap.size w w') : LimsAt w' a l := fun j x hj => by
  obtain ⟨b, o, h1, h2⟩ := h j x hj
  exact ⟨b, o, h1, stay hb h2⟩
/-- What stands at each act. -/
structure FS (w0 w : World) (k p : Nat) (g : Lg) (a : Option Addr) (cap : Nat) (af : Int) (oa : Option Addr) (on oc : Nat) (owed : List Chg) (tot : Nat) : Prop where
  bel : Below w0.heap.size w0 w
  log : LogAt (fun b => ¬ blkOf oa b) w p k g a cap
  row : Rw w w0.heap.size 4 oa on oc (flatC owed)
  len : owed.length = on
  lt : ∀ b, blkOf oa b → b < w.heap.size
  fi : FI k g af owed
  bd : ∀ c ∈ g.cs, c.st ≤ 9223372036854775807
  tot : on ≤ tot
section
variable {w0 w : World} {k p : Nat} {g : Lg} {a : Option Addr} {cap : Nat} {af : Int} {oa : Option Addr} {on oc : Nat} {owed : List Chg} {tot : Nat}
theorem FS.below {w' : World} (h : FS w0 w k p g a cap af oa on oc owed tot) (hb : Below w.heap.size w w') : FS w0 w' k p g a cap af oa on oc owed tot :=
  ⟨h.bel.trans (hb.mono h.bel.size), h.log.below hb, h.row.below hb, h.len, fun b hbk => Nat.lt_of_lt_of_le (h.lt b hbk) hb.size, h.fi, h.bd, h.tot⟩
theorem FS.le {tot' : Nat} (h : FS w0 w k p g a cap af oa on oc owed tot) (ht : tot ≤ tot') : FS w0 w k p g a cap af oa on oc owed tot' := ⟨h.bel, h.log, h.row, h.len, h.lt, h.fi, h.bd, Nat.le_trans h.tot ht⟩
theorem FS.told {m : Nat} {up : Int} (h : FS w0 w k p g a cap af oa on oc owed tot) (hm : m ≤ on) (hfi : FI k g up (owed.drop m)) : FS w0 w k p g a cap up (advA oa m 4 oc) (on - m) (oc - m) (owed.drop m) tot :=
  ⟨h.bel, h.log.mono (fun b hb _ hbk => hb (blk_adv hbk)), h.row.rest m hm, by rw [List.length_drop, h.len], fun b hbk => h.lt b (blk_adv hbk), hfi, h.bd, Nat.le_trans (Nat.sub_le _ _) h.tot⟩
theorem FS.with {w' : World} {p' : Nat} {g' : Lg} {a' : Option Addr} {cap' : Nat} (h : FS w0 w k p g a cap af oa on oc owed tot) (hb : Below w.heap.size w w') (hL : LogAt (NewS (fun b => ¬ blkOf oa b) w.heap.size) w' p' k g' a' cap') (hfi : FI k g' af owed) (hbd : ∀ c ∈ g'.cs, c.st ≤ 9223372036854775807) : FS w0 w' k p' g' a' cap' af oa on oc owed tot :=
  ⟨h.bel.trans (hb.mono h.bel.size), hL.mono (fun b hb' _ hbk => by
    rcases hb' with hb' | hb'
    · exact hb'.1 hbk
    · have := h.lt b hbk; omega), h.row.below hb, h.len, fun b hbk => Nat.lt_of_lt_of_le (h.lt b hbk) hb.size, hfi, hbd, h.tot⟩
end
/-- Under way: more is owed, the log is not yet the next. -/
structure FM (w0 w : World) (k p : Nat) (g : Lg) (a : Option Addr) (cap : Nat) (oa : Option Addr) (on oc : Nat) (owed : List Chg) : Prop where
  bel : Below w0.heap.size w0 w
  log : LogAt (fun b => ¬ blkOf oa b) w p k g a cap
  row : Rw w w0.heap.size 4 oa on oc (flatC owed)
  len : owed.length = on
  lt : ∀ b, blkOf oa b → b < w.heap.size
section
variable {w0 w : World} {k p : Nat} {g : Lg} {a : Option Addr} {cap : Nat} {oa : Option Addr} {on oc : Nat} {owed : List Chg}
theorem FM.below {w' : World} (h : FM w0 w k p g a cap oa on oc owed) (hb : Below w.heap.size w w') : FM w0 w' k p g a cap oa on oc owed :=
  ⟨h.bel.trans (hb.mono h.bel.size), h.log.below hb, h.row.below hb, h.len, fun b hbk => Nat.lt_of_lt_of_le (h.lt b hbk) hb.size⟩
theorem FM.more {W2 W3 : World} {c : Chg} {g2 o2 c2 : Nat} (h : FM w0 w k p g a cap oa on oc owed) (hb : Below w.heap.size w W2) (hA : Appd W2 w0.heap.size 4 oa on 1 oc (flatC owed ++ chgCs c) g2 o2 c2 W3) : FM w0 W3 k p g a cap (some ⟨g2, o2, none⟩) (on + 1) c2 (owed ++ [c]) := by
  have hb2 : Below w0.heap.size w0 W2 := h.bel.trans (hb.mono h.bel.size)
  have hlo : ∀ q, blkOf oa q → on + 1 ≤ oc → w0.heap.size ≤ q := fun q hq h1 => by
    rcases h.row.pt with h0 | ⟨b', o', e, h2, -⟩
    · omega
    · obtain ⟨o2, s2, e2⟩ := hq
      rw [e] at e2
      cases e2
      exact h2
  have hlog : LogAt (fun b => ¬ blkOf oa b) W3 p k g a cap := (h.log.below hb).keep (fun b hb' hlt => hA.fr.block b hlt (fun e => hb' e.1))
  refine ⟨⟨hA.fr.os.trans hb2.os, hA.fr.tape.trans hb2.tape, hA.fr.output.trans hb2.output, Nat.le_trans hb2.size hA.fr.size, fun q hq => (hA.fr.block q (Nat.lt_of_lt_of_le hq hb2.size) (fun e => by have := hlo q e.1 e.2; omega)).trans (hb2.block q hq)⟩, ?_, by rw [flatC_snoc]; exact hA.row, by simp [h.len], fun b hbk => by obtain ⟨o3, s3, e3⟩ := hbk; cases e3; exact hA.lt⟩
  rcases hA.at' with ⟨e, -, h1⟩ | ⟨e, -⟩
  · exact hlog.mono (fun b hb' _ hbk => hb' (by obtain ⟨o3, s3, e3⟩ := hbk; cases e3; exact ⟨o2, none, e⟩))
  · have hl2 := h.log.below hb
    have hfr : LogAt (fun b => b < W2.heap.size ∧ ¬ blkOf oa b) W2 p k g a cap := hl2.mono (fun b hb' hlt => ⟨hlt, hb'⟩)
    have hfr3 := hfr.keep (w' := W3) (fun b hb' hlt => hA.fr.block b hlt (fun e' => hb'.2 e'.1))
    exact hfr3.mono (fun b hb' _ hbk => by obtain ⟨o3, s3, e3⟩ := hbk; cases e3; have := hb'.1; omega)
end
end Go.Proofs.Ytpdcinicnekeoaa
