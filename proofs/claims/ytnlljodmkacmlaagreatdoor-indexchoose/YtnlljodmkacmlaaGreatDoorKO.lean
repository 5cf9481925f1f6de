import Derived.Test.YtnlljodmkacmlaaGreatDoorKN
/-! IndexChoose: the walk. -/
namespace Go.Proofs.YtnlljodmkacmlaaGreatDoor.Chk
open Go Go.RowKit

structure Sp where
  nm : ByteArray
  pt : ByteArray
  un : Bool
def SpecsAt (w : World) (a : Option Addr) (ss : List Sp) : Prop := ∀ (j : Nat) s, ss[j]? = some s → ∃ b o, a = some ⟨b, o, none⟩ ∧ w.cell? ⟨b, o + j * 3, none⟩ = some (.string s.nm) ∧ w.cell? ⟨b, o + j * 3 + 1, none⟩ = some (.string s.pt) ∧ w.cell? ⟨b, o + j * 3 + 2, none⟩ = some (.bool s.un)
theorem SpecsAt.keep {w w' : World} {a : Option Addr} {ss : List Sp} (h : SpecsAt w a ss) (hb : Below w.heap.size w w') : SpecsAt w' a ss := fun j s hj => by
  obtain ⟨b, o, h1, h2, h3, h4⟩ := h j s hj
  exact ⟨b, o, h1, Chk.stay hb h2, Chk.stay hb h3, Chk.stay hb h4⟩
def Ls (ss : List Sp) : List (Option ByteArray) := ss.map fun s => if okS s.nm s.pt then some s.pt else none
theorem own_form {w : World} {lo : Nat} {e : TypeId} {size n : Nat} {v : Value} {xs : List Value} (h : w.ownsRow lo e size v n xs) : (v = .slice none 0 0 ∧ n = 0) ∨ ∃ g cap cur, v = .slice (some ⟨g, 0, none⟩) n cap ∧ lo ≤ g ∧ w.heap[g]? = some (.cells cur e (0, 0)) := by
  obtain ⟨h1, h2⟩ := h
  rcases h2 with ⟨hv, h0⟩ | ⟨g', cap', cur, hv, hg, hh, hc, hm, hs, hr⟩
  · exact .inl ⟨hv, h0⟩
  · exact .inr ⟨g', cap', cur, hv, hg, hh⟩
/-- Blocks of another type stay where a row is appended to. -/
theorem grown_other {w w' : World} {lo : Nat} {e t : TypeId} {size n : Nat} {v : Value} {xs : List Value} (hg : w.grownBy w' v.ownBlock) (h : w.ownsRow lo e size v n xs) (hne : t ≠ e) {b : Nat} {cs : Array Value} {f : Nat × Nat} (hb : w.heap[b]? = some (.cells cs t f)) : w'.heap[b]? = w.heap[b]? := by
  refine hg.block b (Array.getElem?_eq_some_iff.1 hb).1 (fun eq => ?_)
  rcases own_form h with ⟨rfl, -⟩ | ⟨g, cap, cur, rfl, -, hh⟩
  · cases eq
  · cases eq
    rw [hb] at hh
    cases hh
    exact hne rfl
theorem own_other {w w' : World} {lo lo' : Nat} {e t : TypeId} {size size' n n' : Nat} {v u : Value} {xs ys : List Value} (hg : w.grownBy w' v.ownBlock) (h : w.ownsRow lo e size v n xs) (hne : t ≠ e) (k : w.ownsRow lo' t size' u n' ys) : w'.ownsRow lo' t size' u n' ys := by
  obtain ⟨h1, h2⟩ := k
  refine ⟨h1, ?_⟩
  rcases h2 with h2 | ⟨g', cap', cur, hv, hg', hh, r⟩
  · exact .inl h2
  · exact .inr ⟨g', cap', cur, hv, hg', (grown_other hg h hne hh).trans hh, r⟩
theorem own_below {w w' : World} {lo : Nat} {e : TypeId} {size n : Nat} {v : Value} {xs : List Value} (h : w.ownsRow lo e size v n xs) (hb : Below w.heap.size w w') : w'.ownsRow lo e size v n xs := by
  obtain ⟨h1, h2⟩ := h
  refine ⟨h1, ?_⟩
  rcases h2 with h2 | ⟨g', cap', cur, hv, hg', hh, r⟩
  · exact .inl h2
  · exact .inr ⟨g', cap', cur, hv, hg', (hb.block _ (Array.getElem?_eq_some_iff.1 hh).1).trans hh, r⟩
/-- Both rows under way. -/
structure LI (w : World) (L : List (Option ByteArray)) (q : Nat) (lv rv : Value) (wr : World) : Prop where
  bel : Below w.heap.size w wr
  lrow : ∃ xs, wr.ownsRow w.heap.size 32 1 lv q xs ∧ ∀ i o, i < q → L[i]? = some o → ∃ v, xs[i]? = some v ∧ CV wr o v
  rrow : ∃ ys, wr.ownsRow w.heap.size 51 1 rv q ys ∧ ∀ i o, i < q → L[i]? = some o → ∃ v, ys[i]? = some v ∧ DV wr o v
theorem LI.below {w : World} {L : List (Option ByteArray)} {q : Nat} {lv rv : Value} {wr w' : World} (h : LI w L q lv rv wr) (hb : Below wr.heap.size wr w') : LI w L q lv rv w' := by
  obtain ⟨xs, h1, h2⟩ := h.lrow
  obtain ⟨ys, h3, h4⟩ := h.rrow
  refine ⟨h.bel.trans (hb.mono h.bel.size), ⟨xs, own_below h1 hb, fun i o hi ho => ?_⟩, ⟨ys, own_below h3 hb, fun i o hi ho => ?_⟩⟩
  · obtain ⟨v, e1, e2⟩ := h2 i o hi ho
    exact ⟨v, e1, e2.keep (fun b cs hh => hb.block b (Array.getElem?_eq_some_iff.1 hh).1)⟩
  · obtain ⟨v, e1, e2⟩ := h4 i o hi ho
    exact ⟨v, e1, e2.keep (fun b cs hh => hb.block b (Array.getElem?_eq_some_iff.1 hh).1)⟩
theorem pinfo : ∃ ri, Tryz.prog.info? 32 = some ri ∧ ri.zero = some (.pointer none) ∧ ri.size = 1 ∧ ri.bytes = 8 := by
  have : (Tryz.prog.info? 32).map (fun i => (i.zero, i.size, i.bytes)) = some (some (.pointer none), 1, 8) := by kernel_rfl
  cases hq : Tryz.prog.info? 32 with
  | none => rw [hq] at this; cases this
  | some ri => rw [hq] at this; simp at this; exact ⟨ri, rfl, this.1, this.2.1, this.2.2⟩
theorem qinfo : ∃ ri, Tryz.prog.info? 51 = some ri ∧ ri.zero = some (.pointer none) ∧ ri.size = 1 ∧ ri.bytes = 8 := by
  have : (Tryz.prog.info? 51).map (fun i => (i.zero, i.size, i.bytes)) = some (some (.pointer none), 1, 8) := by kernel_rfl
  cases hq : Tryz.prog.info? 51 with
  | none => rw [hq] at this; cases this
  | some ri => rw [hq] at this; simp at this; exact ⟨ri, rfl, this.1, this.2.1, this.2.2⟩
theorem cv_ptr {w : World} {o : Option ByteArray} {v : Value} (h : CV w o v) : ∃ a, v = .pointer a := by
  rcases h with ⟨-, rfl⟩ | ⟨pt, xb, nm, un, pv, ev, kv, -, rfl, -⟩
  · exact ⟨_, rfl⟩
  · exact ⟨_, rfl⟩
theorem dv_ptr {w : World} {o : Option ByteArray} {v : Value} (h : DV w o v) : ∃ a, v = .pointer a := by
  rcases h with ⟨-, rfl⟩ | ⟨pt, xb, nm, un, pv, -, rfl, -⟩
  · exact ⟨_, rfl⟩
  · exact ⟨_, rfl⟩
theorem snoc_at {α : Type} {xs : List α} {v : α} {q i : Nat} (hl : xs.length = q) (hi : i < q + 1) : (xs ++ [v])[i]? = if i = q then some v else xs[i]? := by
  by_cases h : i = q
  · subst h
    rw [if_pos rfl, List.getElem?_append_right (by omega), hl, Nat.sub_self]
    rfl
  · rw [if_neg h, List.getElem?_append_left (by omega)]
theorem own_len {w : World} {lo : Nat} {e : TypeId} {n : Nat} {v : Value} {xs : List Value} (h : w.ownsRow lo e 1 v n xs) : xs.length = n := by
  have := h.1
  omega
/-- The code's row is appended to: X is the world of the append, w3 the one behind it. -/
theorem LI.left {w : World} {L : List (Option ByteArray)} {q : Nat} {lv rv : Value} {X w3 : World} {xs : List Value} {ys : List Value} {lv' : Value} {v1 v2 : Value} {o : Option ByteArray} (hB : Below w.heap.size w X) (h1 : X.ownsRow w.heap.size 32 1 lv q xs) (h2 : ∀ i o, i < q → L[i]? = some o → ∃ v, xs[i]? = some v ∧ CV X o v) (h3 : X.ownsRow w.heap.size 51 1 rv q ys) (h4 : ∀ i o, i < q → L[i]? = some o → ∃ v, ys[i]? = some v ∧ DV X o v)
    (ho : L[q]? = some o) (hv : CV X o v1) (hd : DV X o v2) (hg : X.grownBy w3 lv.ownBlock) (hn : w3.ownsRow w.heap.size 32 1 lv' (q + 1) (xs ++ [v1])) :
    Below w.heap.size w w3 ∧ (∀ i o, i < q + 1 → L[i]? = some o → ∃ v, (xs ++ [v1])[i]? = some v ∧ CV w3 o v) ∧ w3.ownsRow w.heap.size 51 1 rv q ys ∧ (∀ i o, i < q → L[i]? = some o → ∃ v, ys[i]? = some v ∧ DV w3 o v) ∧ DV w3 o v2 := by
  have k1 : ∀ (b : Nat) (cs : Array Value), X.heap[b]? = some (.cells cs 70 (0, 0)) → w3.heap[b]? = X.heap[b]? := fun b cs hb => grown_other hg h1 (by decide) hb
  have k2 : ∀ (b : Nat) (cs : Array Value), X.heap[b]? = some (.cells cs 92 (0, 0)) → w3.heap[b]? = X.heap[b]? := fun b cs hb => grown_other hg h1 (by decide) hb
  refine ⟨⟨hg.os.trans hB.os, hg.tape.trans hB.tape, hg.output.trans hB.output, Nat.le_trans hB.size hg.size, fun k hk => (hg.block k (Nat.lt_of_lt_of_le hk hB.size) (fun e => ?_)).trans (hB.block k hk)⟩, fun i o' hi ho' => ?_, own_other hg h1 (by decide) h3, fun i o' hi ho' => ?_, hd.keep k2⟩
  · rcases own_form h1 with ⟨rfl, -⟩ | ⟨g, cap, cur, rfl, hlo, -⟩
    · cases e
    · have e2 : k = g := Option.some.inj e
      omega
  · rw [snoc_at (own_len h1) hi]
    by_cases hq : i = q
    · subst hq
      obtain rfl : o = o' := Option.some.inj (ho.symm.trans ho')
      rw [if_pos rfl]
      exact ⟨v1, rfl, hv.keep k1⟩
    · rw [if_neg hq]
      obtain ⟨v, e1, e2⟩ := h2 i o' (by omega) ho'
      exact ⟨v, e1, e2.keep k1⟩
  · obtain ⟨v, e1, e2⟩ := h4 i o' hi ho'
    exact ⟨v, e1, e2.keep k2⟩
theorem LI.right {w : World} {L : List (Option ByteArray)} {q : Nat} {lv' rv : Value} {X w3 : World} {xs : List Value} {ys : List Value} {rv' : Value} {v2 : Value} {o : Option ByteArray} (hB : Below w.heap.size w X) (h1 : X.ownsRow w.heap.size 32 1 lv' (q + 1) xs) (h2 : ∀ i o, i < q + 1 → L[i]? = some o → ∃ v, xs[i]? = some v ∧ CV X o v) (h3 : X.ownsRow w.heap.size 51 1 rv q ys) (h4 : ∀ i o, i < q → L[i]? = some o → ∃ v, ys[i]? = some v ∧ DV X o v)
    (ho : L[q]? = some o) (hd : DV X o v2) (hg : X.grownBy w3 rv.ownBlock) (hn : w3.ownsRow w.heap.size 51 1 rv' (q + 1) (ys ++ [v2])) : LI w L (q + 1) lv' rv' w3 := by
  have k1 : ∀ (b : Nat) (cs : Array Value), X.heap[b]? = some (.cells cs 70 (0, 0)) → w3.heap[b]? = X.heap[b]? := fun b cs hb => grown_other hg h3 (by decide) hb
  have k2 : ∀ (b : Nat) (cs : Array Value), X.heap[b]? = some (.cells cs 92 (0, 0)) → w3.heap[b]? = X.heap[b]? := fun b cs hb => grown_other hg h3 (by decide) hb
  refine ⟨⟨hg.os.trans hB.os, hg.tape.trans hB.tape, hg.output.trans hB.output, Nat.le_trans hB.size hg.size, fun k hk => (hg.block k (Nat.lt_of_lt_of_le hk hB.size) (fun e => ?_)).trans (hB.block k hk)⟩, ⟨xs, own_other hg h3 (by decide) h1, fun i o' hi ho' => ?_⟩, ⟨ys ++ [v2], hn, fun i o' hi ho' => ?_⟩⟩
  · rcases own_form h3 with ⟨rfl, -⟩ | ⟨g, cap, cur, rfl, hlo, -⟩
    · cases e
    · have e2 : k = g := Option.some.inj e
      omega
  · obtain ⟨v, e1, e2⟩ := h2 i o' hi ho'
    exact ⟨v, e1, e2.keep k1⟩
  · rw [snoc_at (own_len h3) hi]
    by_cases hq : i = q
    · subst hq
      obtain rfl : o = o' := Option.some.inj (ho.symm.trans ho')
      rw [if_pos rfl]
      exact ⟨v2, rfl, hd.keep k2⟩
    · rw [if_neg hq]
      obtain ⟨v, e1, e2⟩ := h4 i o' (by omega) ho'
      exact ⟨v, e1, e2.keep k2⟩
theorem LI.pat {w : World} {L : List (Option ByteArray)} {lv rv : Value} {wr : World} (h : LI w L L.length lv rv wr) : ∃ a c a' c', lv = .slice a L.length c ∧ PAt wr a L ∧ rv = .slice a' L.length c' ∧ QAt wr a' L := by
  obtain ⟨xs, h1, h2⟩ := h.lrow
  obtain ⟨ys, h3, h4⟩ := h.rrow
  obtain ⟨a, c, rfl⟩ := ownsRow_slice h1
  obtain ⟨a', c', rfl⟩ := ownsRow_slice h3
  refine ⟨a, c, a', c', rfl, fun i o hi => ?_, rfl, fun i o hi => ?_⟩
  · have hl := (List.getElem?_eq_some_iff.1 hi).1
    obtain ⟨v, e1, e2⟩ := h2 i o hl hi
    rcases own_form h1 with ⟨-, h0⟩ | ⟨g, cap, cur, hv, -, -⟩
    · omega
    · cases hv
      have hc := h1.cellAt i (by omega)
      exact ⟨g, 0, v, rfl, by rw [Nat.zero_add, hc, e1], e2⟩
  · have hl := (List.getElem?_eq_some_iff.1 hi).1
    obtain ⟨v, e1, e2⟩ := h4 i o hl hi
    rcases own_form h3 with ⟨-, h0⟩ | ⟨g, cap, cur, hv, -, -⟩
    · omega
    · cases hv
      have hc := h3.cellAt i (by omega)
      exact ⟨g, 0, v, rfl, by rw [Nat.zero_add, hc, e1], e2⟩
theorem cvs_keep {w w' : World} {L : List (Option ByteArray)} {n : Nat} {xs : List Value} (h : ∀ i o, i < n → L[i]? = some o → ∃ v, xs[i]? = some v ∧ CV w o v) (hb : Below w.heap.size w w') : ∀ i o, i < n → L[i]? = some o → ∃ v, xs[i]? = some v ∧ CV w' o v := fun i o hi ho => by
  obtain ⟨v, e1, e2⟩ := h i o hi ho
  exact ⟨v, e1, e2.keep (fun b cs hh => hb.block b (Array.getElem?_eq_some_iff.1 hh).1)⟩
theorem dvs_keep {w w' : World} {L : List (Option ByteArray)} {n : Nat} {xs : List Value} (h : ∀ i o, i < n → L[i]? = some o → ∃ v, xs[i]? = some v ∧ DV w o v) (hb : Below w.heap.size w w') : ∀ i o, i < n → L[i]? = some o → ∃ v, xs[i]? = some v ∧ DV w' o v := fun i o hi ho => by
  obtain ⟨v, e1, e2⟩ := h i o hi ho
  exact ⟨v, e1, e2.keep (fun b cs hh => hb.block b (Array.getElem?_eq_some_iff.1 hh).1)⟩
theorem LI.zero (w : World) (L : List (Option ByteArray)) : LI w L 0 (.slice none 0 0) (.slice none 0 0) w := ⟨Below.refl _ _, ⟨[], World.ownsRow_nil _ _ _ _, fun i o h => by omega⟩, ⟨[], World.ownsRow_nil _ _ _ _, fun i o h => by omega⟩⟩
set_option maxHeartbeats 8000000 in
set_option maxRecDepth 100000 in
theorem choose_true (a : Option Addr) (c0 : Nat) (ss : List Sp) (b0 : Option Addr) (e0 : Nat) (ds : List Nd) (w : World) (hS : SpecsAt w a ss) (hz : ∀ s ∈ ss, s.nm.size ≤ 9223372036854775806 ∧ s.pt.size ≤ 140737488355328) (hD : NeedsAt w b0 ds) (hOk : ∀ d ∈ ds, NOk w d) (hV : ∀ d ∈ ds, VRep w d.t (five d.k d.x d.s (.slice d.an d.ns.length d.cn) (.slice d.ai d.its.length d.ci))) :
    Calls Tryz.prog 5 #[.slice a ss.length c0, .slice b0 ds.length e0] w fun e w' => e = .returned (.bool true) ∧ Below w.heap.size w w' := by
  have HB0 := Below.refl w.heap.size w
  by_cases h1 : 50 < ss.length
  · have h1' : decide ((50 : Int) < (ss.length : Int)) = true := by simp; omega
    clear hS hz hD hOk hV h1
    go_enter Tryz.func5, Tryz.ntmps5
    go_wp2_with fail
    go_ret
    exact ⟨rfl, HB0⟩
  have h1' : decide ((50 : Int) < (ss.length : Int)) = false := by simp; omega
  by_cases h2 : 50 < ds.length
  · have h2' : decide ((50 : Int) < (ds.length : Int)) = true := by simp; omega
    clear hS hz hD hOk hV h1 h2
    go_enter Tryz.func5, Tryz.ntmps5
    go_wp2_with fail
    go_ret
    exact ⟨rfl, HB0⟩
  have h2' : decide ((50 : Int) < (ds.length : Int)) = false := by simp; omega
  have hLl : (Ls ss).length = ss.length := by simp [Ls]
  have g1 : ss.length ≤ 50 := by omega
  have g2 : ds.length ≤ 50 := by omega
  replace hS := hid_e hS
  replace hz := hid_e hz
  replace hD := hid_e hD
  replace hOk := hid_e hOk
  replace hV := hid_e hV
  replace hLl := hid_e hLl
  obtain ⟨ri, hri, hri1, hri2, hri3⟩ := pinfo
  obtain ⟨rj, hrj, hrj1, hrj2, hrj3⟩ := qinfo
  clear h1 h2
  go_enter Tryz.func5, Tryz.ntmps5
  go_wp2_with fail
  go_loopw [5, 6, 7] (fun lv rv iv wr => ∃ q : Nat, q ≤ ss.length ∧ iv = .int .i64 q ∧ LI w (Ls ss) q lv rv wr) (fun _ _ iv _ => ss.length - (intOf iv).toNat)
  case atStart => exact ⟨0, Nat.zero_le _, rfl, LI.zero w _⟩
  case round =>
    clear HB0 h1' h2'
    obtain ⟨q, hq, rfl, hL⟩ := hrel
    by_cases hlt : q < ss.length
    · have hdq : decide ((q : Int) < (ss.length : Int)) = true := by simp; omega
      have hq1 : (q : Int) < (ss.length : Int) := by omega
      obtain ⟨sp, hsp⟩ : ∃ s, Hid (ss[q]? = some s) := ⟨_, hid_e (List.getElem?_eq_getElem hlt)⟩
      obtain ⟨b, o, rfl, z0, z1, z2⟩ := hS.out.keep hL.bel q sp hsp.out
      obtain ⟨y1, y2⟩ := hz.out sp (List.mem_of_getElem? hsp.out)
      obtain ⟨oo, hoo⟩ : ∃ o, Hid ((if okS sp.nm sp.pt then some sp.pt else none) = o) := ⟨_, hid_e rfl⟩
      have hLq : Hid ((Ls ss)[q]? = some oo) := hid_e (by unfold Ls; rw [List.getElem?_map, hsp.out, ← hoo.out]; rfl)
      have hcn := hid_e (code_new sp.nm sp.pt sp.un y1 y2 wr)
      have hdn := fun W => hid_e (doc_new sp.nm sp.pt sp.un y1 y2 W)
      rw [hoo.out] at hcn
      simp only [hoo.out] at hdn
      replace hL := hid_e hL
      clear y1 y2
      go_wp2_with fail
      refine hcn.out.mono ?_
      rintro e X1 ⟨v1, zz1, rfl, hv1, hX1⟩
      replace z0 := Chk.stay hX1 z0
      replace z1 := Chk.stay hX1 z1
      replace z2 := Chk.stay hX1 z2
      replace hL := hid_e (hL.out.below hX1)
      replace hv1 := hid_e hv1
      clear hX1 hcn
      go_wp2_with fail
      refine (hdn _).out.mono ?_
      rintro e X2 ⟨v2, zz2, rfl, hv2, hX2⟩
      replace hv1 := hid_e (hv1.out.keep (fun b cs hh => hX2.block b (Array.getElem?_eq_some_iff.1 hh).1))
      replace hL := hid_e (hL.out.below hX2)
      clear hX2 hdn z0 z1 z2
      obtain ⟨p1, rfl⟩ := cv_ptr hv1.out
      obtain ⟨p2, rfl⟩ := dv_ptr hv2
      have hA3 := (Below.refl _ X2).alloc (Nat.le_refl _) (.cells #[.pointer p1] 32)
      have hv3 := hid_e (hv1.out.keep (fun b cs hh => hA3.block b (Array.getElem?_eq_some_iff.1 hh).1))
      have hd3 := hid_e (hv2.keep (fun b cs hh => hA3.block b (Array.getElem?_eq_some_iff.1 hh).1))
      have hL3 := hid_e (hL.out.below hA3)
      obtain ⟨xs, l1, l2⟩ := hL3.out.lrow
      obtain ⟨ys, r1, r2⟩ := hL3.out.rrow
      have hB3 := hid_e hL3.out.bel
      have hsz3 : Hid (w.heap.size ≤ (X2.alloc (.cells #[.pointer p1] 32)).heap.size) := hid_e hL3.out.bel.size
      obtain ⟨la, lc, rfl⟩ := ownsRow_slice l1
      obtain ⟨ra, rc, rfl⟩ := ownsRow_slice r1
      replace l1 := hid_e l1
      replace l2 := hid_e l2
      replace r1 := hid_e r1
      replace r2 := hid_e r2
      have hn1 : Hid (q + 1 ≤ maxLen ∧ (q + 1) * 8 ≤ 140737488355328) := ⟨by unfold maxLen; omega, by omega⟩
      clear hA3 hL3 hv1 hv2 hL
      go_wp2_with (first
        | (at_builtin; refine wpList_append_lies _ rfl _ _ 47 rfl w.heap.size 32 ri _ 1 8 Tryz.underlying47 hri hri1 hri2 hri3 rfl (by decide) _ q xs rfl l1.out _ 1 1 [.pointer p1] rfl rfl (World.news_of_block (heap_alloc_new X2 _)) (by simp [Value.oneCell']) (by decide) hn1.out.1 hn1.out.2 hsz3.out _ rfl ?_; intro g cap w4 hown4 hgrow4 hat4 hlt4; obtain ⟨f1, f2, f3, f4, f5⟩ := LI.left hB3.out l1.out l2.out r1.out r2.out hLq.out hv3.out hd3.out hgrow4 hown4; have hA5 := (Below.refl _ w4).alloc (Nat.le_refl _) (.cells #[.pointer p2] 51); have hB5 := hid_e (f1.trans (hA5.mono f1.size)); have k1 := hid_e (own_below hown4 hA5); have k3 := hid_e (own_below f3 hA5); have k5 := hid_e (f5.keep (fun b cs hh => hA5.block b (Array.getElem?_eq_some_iff.1 hh).1)); have k2 := hid_e (cvs_keep f2 hA5); have k4 := hid_e (dvs_keep f4 hA5); have hsz5 := hid_e hB5.out.size; clear hA5 hown4 hgrow4 hat4 hlt4 f1 f2 f3 f4 f5)
        | (at_builtin; refine wpList_append_lies _ rfl _ _ 48 rfl w.heap.size 51 rj _ 1 8 Tryz.underlying48 hrj hrj1 hrj2 hrj3 rfl (by decide) _ q ys rfl k3.out _ 1 1 [.pointer p2] rfl rfl (World.news_of_block (heap_alloc_new w4 _)) (by simp [Value.oneCell']) (by decide) hn1.out.1 hn1.out.2 hsz5.out _ rfl ?_; intro g6 cap6 w6 hown6 hgrow6 hat6 hlt6; have hfin := hid_e (LI.right hB5.out k1.out k2.out k3.out k4.out hLq.out k5.out hgrow6 hown6); clear hown6 hgrow6 hat6 hlt6))
      go_roundw
      case rel => exact ⟨q + 1, by omega, by simp, hfin.out⟩
      case measure => simp [intOf]; omega
    · have hdq : decide ((q : Int) < (ss.length : Int)) = false := by simp; omega
      obtain rfl : q = (Ls ss).length := by rw [hLl.out]; omega
      obtain ⟨la, lc, ra, rc, rfl, hPA, rfl, hQA⟩ := hL.pat
      have hBw := hid_e hL.bel
      replace hPA := hid_e hPA
      replace hQA := hid_e hQA
      have hl50 : (Ls ss).length ≤ 50 := by rw [hLl.out]; exact g1
      have hnl : ¬ (Ls ss).length < ss.length := by rw [hLl.out]; omega
      have hnl2 : decide ((Ls ss).length < ss.length) = false := by simpa using hnl
      clear hL hlt hq hS hz hri hri1 hri2 hri3 hrj hrj1 hrj2 hrj3
      generalize Ls ss = L at *
      clear hLl
      go_wp2_with fail
      go_loopw [12] (fun iv wr' => ∃ k : Nat, k ≤ ds.length ∧ iv = .int .i64 k ∧ Below w.heap.size w wr' ∧ PAt wr' la L ∧ QAt wr' ra L) (fun iv _ => ds.length - (intOf iv).toNat)
      case atStart => exact ⟨0, Nat.zero_le _, rfl, hBw.out, hPA.out, hQA.out⟩
      case round =>
        clear hBw hPA hQA
        obtain ⟨k, hk, rfl, hB, hPA, hQA⟩ := hrel
        by_cases hkl : k < ds.length
        · have hdk : decide ((k : Int) < (ds.length : Int)) = true := by simp; omega
          have hk1 : (k : Int) < (ds.length : Int) := by omega
          obtain ⟨d, hd⟩ : ∃ d, Hid (ds[k]? = some d) := ⟨_, hid_e (List.getElem?_eq_getElem hkl)⟩
          obtain ⟨b, o, rfl, hcs⟩ := hD.out.keep hB k d hd.out
          have hpt := hid_e (parts_any d.t _ 1000 wr (VRep.keep hB _ _ (hV.out d (List.mem_of_getElem? hd.out))))
          obtain ⟨p, op, kk, x, s, ns, its, an, cn, ai, ci⟩ := d
          unfold Nd.cells at hcs
          unfold five at hpt
          have n2 := hcs 2 _ rfl
          have n3 := hcs 3 _ rfl
          have n4 := hcs 4 _ rfl
          have n5 := hcs 5 _ rfl
          have n6 := hcs 6 _ rfl
          simp only at n2 n3 n4 n5 n6 hpt
          replace hB := hid_e hB
          replace hPA := hid_e hPA
          replace hQA := hid_e hQA
          clear hcs
          go_wp2_with fail
          refine hpt.out.mono ?_
          rintro e X1 ⟨⟨z, rfl⟩, hX1⟩
          replace hB := hid_e (hB.out.trans (hX1.mono hB.out.size))
          replace hPA := hid_e (hPA.out.keep hX1)
          replace hQA := hid_e (hQA.out.keep hX1)
          clear hX1 hpt n2 n3 n4 n5 n6
          by_cases hz : 1000 < z
          · have hz' : decide (1000 < z) = true := by simpa using hz
            clear hz
            go_wp2_with fail
            go_ret
            exact ⟨rfl, hB.out⟩
          · have hz' : decide (1000 < z) = false := by simpa using hz
            clear hz
            go_wp2_with fail
            go_roundw
            case rel => exact ⟨k + 1, by omega, by simp, hB.out, hPA.out, hQA.out⟩
            case measure => simp [intOf]; omega
        · obtain rfl : k = ds.length := by omega
          have hdk : decide ((ds.length : Int) < (ds.length : Int)) = false := by simp
          have hch := hid_e (choose_any la lc L b0 e0 ds wr hPA hl50 (hD.out.keep hB) g2 (fun d hd => (hOk.out d hd).keep hB))
          replace hB := hid_e hB
          replace hQA := hid_e hQA
          clear hPA
          go_wp2_with fail
          refine hch.out.mono ?_
          rintro e X1 ⟨zi, zk, ok, rfl, hC1, hX1⟩
          have hB1 := hB.out.trans (hX1.mono hB.out.size)
          have hrc := hid_e (rchoose_any ra rc L b0 e0 ds X1 (hQA.out.keep hX1) hl50 (hD.out.keep hB1) g2 (fun d hd => (hOk.out d hd).keep hB1))
          replace hB := hid_e hB1
          replace hC1 := hid_e hC1
          clear hX1 hB1 hch hQA
          go_wp2_with fail
          refine hrc.out.mono ?_
          rintro e X2 ⟨zi', zk', ok', rfl, hC2, hX2⟩
          obtain ⟨rfl, rfl, rfl⟩ := hC1.out.same hC2
          replace hB := hid_e (hB.out.trans (hX2.mono hB.out.size))
          have hlv := hid_e (live_any X2)
          clear hX2 hrc hC1 hC2
          go_wp2_with fail
          refine hlv.out.mono ?_
          rintro e X3 ⟨rfl, hX3⟩
          replace hB := hid_e (hB.out.trans (hX3.mono hB.out.size))
          clear hX3 hlv
          go_wp2_with fail
          go_ret
          exact ⟨rfl, hB.out⟩
end Go.Proofs.YtnlljodmkacmlaaGreatDoor.Chk
