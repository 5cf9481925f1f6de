import Derived.Test.YtdgdfpgekccibabCE
import Derived.Laws.OwnMore
import Derived.Deep.AppendLies
import Derived.Deep.AppendSrc
import Derived.Deep.DeepMust
/-! clocks: own: events in memory of their own, with marks behind their end. -/
namespace Go.Proofs.Ytdgdfpgekccibab
open Go Go.RowKit
theorem run_append_none {P : Program} (w : World) (t ty e : TypeId) (i : TypeInfo) (ht : P.underlying t = some (.slice e)) (hi : P.info? e = some i) (g n cap : Nat) (hn : n ≤ cap) (ax : Option Addr) (c : Nat) :
    (Builtin.append_ #[t, t] ty #[.slice (some ⟨g, 0, none⟩) n cap, .slice ax 0 c]).run P w = .ok (.slice (some ⟨g, 0, none⟩) n cap) w := by
  have hs : Src P i.size t (.slice ax 0 c) 0 [] w := by
    cases ax with
    | none => exact Src.ofNil w ht c
    | some a => exact Src.ofSlice w ht a 0 c [] (by simp) (fun j u h => by simp at h) (fun u h => by cases h)
  have := run_append_room_src (P := P) w t t ty e i ht hi g 0 n cap _ 0 [] hs (by omega) (fun j h => by simp at h) (fun j h => by simp at h)
  rw [this]
  rfl
theorem wpList_append_zero {P : Program} {ops : Array Oper} {rest : List Oper} {o : Oper} {a : Act} {Q : Exit → Act → World → Prop} (w : World) (hgd : o.guard = none) (s y : Operand) (t : TypeId)
    (ho : o.op = .call { callee := .builtin .append, args := #[s, y], argTypes := #[t, t] }) (e : TypeId) (i : TypeInfo) (ht : P.underlying t = some (.slice e)) (hi : P.info? e = some i)
    (g n cap : Nat) (hn : n ≤ cap) (hse : a.eval s = .slice (some ⟨g, 0, none⟩) n cap) (ax : Option Addr) (c : Nat) (hx : a.eval y = .slice ax 0 c)
    (h : wpList P ops Q rest (a.put o.dst (.slice (some ⟨g, 0, none⟩) n cap)) w) : wpList P ops Q (o :: rest) a w :=
  wpList_plain hgd fun K hK => by
    have hr := run_append_none (P := P) w t o.type e i ht hi g n cap hn ax c
    unfold Oper.wp execOp
    simp only [ho, resolve, invoke, builtin, Sem.run_bind, Sem.run_pure, Result.andThen_ok, List.map_toArray, List.map_cons, List.map_nil, hse, hx, hr]
    exact hK _ _ h
theorem owns_empty (w : World) (e : TypeId) (size : Nat) : (w.alloc (.cells #[] e)).ownsRow w.heap.size e size (.slice (some ⟨w.heap.size, 0, none⟩) 0 0) 0 [] :=
  ⟨by simp, .inr ⟨w.heap.size, 0, #[], rfl, Nat.le_refl _, heap_alloc_new w _, Nat.le_refl _, Nat.zero_le _, by simp, by simp⟩⟩
def cellsE (e : Ev) : List Value := [.int .i64 e.c, .int .i64 e.k, .int .i64 e.o, .int .i64 e.n]
def flatE (l : List Ev) : List Value := l.flatMap cellsE
theorem flatE_len : (l : List Ev) → (flatE l).length = l.length * 4
  | [] => rfl
  | e :: l => by
    have := flatE_len l
    unfold flatE at this ⊢
    simp only [List.flatMap_cons, List.length_append, this, cellsE, List.length_cons, List.length_nil]
    omega
theorem flatE_get : (l : List Ev) → (j i : Nat) → i < 4 → (flatE l)[j * 4 + i]? = (l[j]?).bind fun e => (cellsE e)[i]?
  | [], j, i, _ => by simp [flatE]
  | e :: l, 0, i, hi => by
    unfold flatE
    rw [List.flatMap_cons, Nat.zero_mul, Nat.zero_add, List.getElem?_append_left (by simp [cellsE]; omega)]
    rfl
  | e :: l, j + 1, i, hi => by
    have := flatE_get l j i hi
    unfold flatE at this ⊢
    rw [List.flatMap_cons, List.getElem?_append_right (by simp [cellsE]; omega), List.getElem?_cons_succ, ← this]
    congr 1
    simp [cellsE]
    omega
theorem EvsAt.flat {w : World} {b o : Nat} {l : List Ev} (h : EvsAt w (some ⟨b, o, none⟩) l) (j : Nat) (u : Value) (hu : (flatE l)[j]? = some u) : w.cell? ((⟨b, o, none⟩ : Addr).add j) = some u := by
  have hj : j = j / 4 * 4 + j % 4 := by omega
  have hm : j % 4 < 4 := Nat.mod_lt _ (by decide)
  rw [hj, flatE_get l _ _ hm] at hu
  cases he : l[j / 4]? with
  | none => rw [he] at hu; cases hu
  | some e =>
    rw [he] at hu
    obtain ⟨b', o', h1, _, h3, h4, h5, h6⟩ := h _ _ he
    cases h1
    rw [show ((⟨b, o, none⟩ : Addr).add j) = ⟨b, o + j, none⟩ from by simp [Addr.add], hj]
    generalize j % 4 = i at hu hm ⊢
    generalize j / 4 = q at *
    rcases i with _ | _ | _ | _ | i
    · simp [cellsE] at hu; subst hu; exact h3
    · simp [cellsE] at hu; subst hu; exact h4
    · simp [cellsE] at hu; subst hu; exact h5
    · simp [cellsE] at hu; subst hu; exact h6
    · omega
theorem evsAt_of {w : World} {g : Nat} {l : List Ev} (hg : g < w.heap.size) (h : ∀ j u, (flatE l)[j]? = some u → w.cell? ⟨g, j, none⟩ = some u) : EvsAt w (some ⟨g, 0, none⟩) l := fun j e he => by
  have hh : ∀ i, i < 4 → ∀ u, (cellsE e)[i]? = some u → w.cell? ⟨g, j * 4 + i, none⟩ = some u := fun i hi u hu => h _ _ (by rw [flatE_get l j i hi, he]; exact hu)
  refine ⟨g, 0, rfl, hg, ?_, ?_, ?_, ?_⟩
  · rw [Nat.zero_add]; exact hh 0 (by decide) _ rfl
  · rw [Nat.zero_add]; exact hh 1 (by decide) _ rfl
  · rw [Nat.zero_add]; exact hh 2 (by decide) _ rfl
  · rw [Nat.zero_add]; exact hh 3 (by decide) _ rfl
theorem flatE_one (l : List Ev) : ∀ u ∈ flatE l, u.oneCell' = true := fun u hu => by
  unfold flatE at hu
  rw [List.mem_flatMap] at hu
  obtain ⟨e, _, hu⟩ := hu
  simp [cellsE] at hu
  rcases hu with rfl | rfl | rfl | rfl <;> rfl
/-- The marks. -/
def marksE (k : Nat) : List Ev := (List.range k).map fun i => ⟨100 + (i : Nat), 0, 0, 0⟩
theorem marksE_succ (k : Nat) : marksE (k + 1) = marksE k ++ [⟨100 + (k : Nat), 0, 0, 0⟩] := by simp [marksE, List.range_succ]
theorem flatE_snoc (l : List Ev) (e : Ev) : flatE (l ++ [e]) = flatE l ++ cellsE e := by simp [flatE]
theorem ev_i : (Try.prog.info? 57).map (fun i => (i.zero, i.size, i.bytes)) = some (some (.agg #[.int .i64 0, .int .i64 0, .int .i64 0, .int .i64 0]), 4, 32) := by kernel_rfl
theorem ev_u : Try.prog.underlying 22 = some (.slice 57) := by kernel_rfl
theorem own_bd {n k : Nat} (h : (n + 8) * 32 ≤ 140737488355328) (hk : k < 8) : n + k + 1 ≤ maxLen ∧ (n + k + 1) * 32 ≤ 140737488355328 := by
  unfold maxLen
  omega
theorem World.size_alloc_lt (w : World) (o : Obj) : w.heap.size < (w.alloc o).heap.size := by simp
def OwnPost (w : World) (evs : List Ev) (e : Ending) (w' : World) : Prop :=
  Below w.heap.size w w' ∧ ∃ g cap, e = .returned (.slice (some ⟨g, 0, none⟩) evs.length cap) ∧ w'.ownsRow w.heap.size 57 4 (.slice (some ⟨g, 0, none⟩) (evs.length + 8) cap) (evs.length + 8) (flatE (evs ++ marksE 8))
theorem ev_info : ∃ ri, Try.prog.info? 57 = some ri ∧ ri.zero = some (.agg #[.int .i64 0, .int .i64 0, .int .i64 0, .int .i64 0]) ∧ ri.size = 4 ∧ ri.bytes = 32 := by
  have := ev_i
  cases hq : Try.prog.info? 57 with
  | none => rw [hq] at this; cases this
  | some ri => rw [hq] at this; simp at this; exact ⟨ri, rfl, this.1, this.2.1, this.2.2⟩
theorem wpList_append_evs {ops : Array Oper} {rest : List Oper} {o : Oper} {act : Act} {Q : Exit → Act → World → Prop} (W0 : World) (hgd : o.guard = none) (s y : Operand)
    (ho : o.op = .call { callee := .builtin .append, args := #[s, y], argTypes := #[22, 22] }) (a : Option Addr) (cap : Nat) (evs : List Ev) (hE : EvsAt W0 a evs) (hlen : (evs.length + 8) * 32 ≤ 140737488355328)
    (hse : act.eval s = .slice (some ⟨W0.heap.size, 0, none⟩) 0 0) (hx : act.eval y = .slice a evs.length cap)
    (h : ∀ g c w', Below W0.heap.size W0 w' → w'.ownsRow W0.heap.size 57 4 (.slice (some ⟨g, 0, none⟩) evs.length c) evs.length (flatE evs) → wpList Try.prog ops Q rest (act.put o.dst (.slice (some ⟨g, 0, none⟩) evs.length c)) w') :
    wpList Try.prog ops Q (o :: rest) act (W0.alloc (.cells #[] 57)) := by
  obtain ⟨ri, hri, hri1, hri2, hri3⟩ := ev_info
  have hB0 : Below W0.heap.size W0 (W0.alloc (.cells #[] 57)) := (Below.refl _ W0).alloc (Nat.le_refl _) _
  by_cases h0 : evs = []
  · subst h0
    exact wpList_append_zero _ hgd s y 22 ho 57 ri ev_u hri W0.heap.size 0 0 (Nat.le_refl _) hse a cap hx (h _ _ _ hB0 (owns_empty W0 _ _))
  · have hl : 0 < evs.length := List.length_pos_iff.2 h0
    obtain ⟨b, o', rfl, hb, -⟩ := hE 0 _ (List.getElem?_eq_getElem hl)
    refine wpList_append_lies _ hgd s y 22 ho W0.heap.size 57 ri _ 4 32 ev_u hri hri1 hri2 hri3 rfl (by decide) _ 0 [] hse (owns_empty W0 _ _) ⟨b, o', none⟩ evs.length cap (flatE evs) hx (flatE_len evs) (fun j u hu => stay hB0 (hE.flat j u hu)) (flatE_one evs) hl (by unfold maxLen; omega) (by omega) (by simp) _ rfl ?_
    intro g c w' r1 r2 r3 r4
    rw [Nat.zero_add] at r1 ⊢
    exact h g c w' (hB0.grown r2 hB0.size (fun k e => by cases e; exact Nat.le_refl _)) r1
set_option maxHeartbeats 2000000 in
set_option maxRecDepth 100000 in
theorem own_any (a : Option Addr) (cap : Nat) (evs : List Ev) (w : World) (hE : EvsAt w a evs) (hlen : (evs.length + 8) * 32 ≤ 140737488355328) :
    Calls Try.prog 7 #[.slice a evs.length cap] w (OwnPost w evs) := by
  obtain ⟨ri, hri, hri1, hri2, hri3⟩ := ev_info
  have hpost : Hid (∀ (g c : Nat) (w' : World), Below w.heap.size w w' → w'.ownsRow w.heap.size 57 4 (.slice (some ⟨g, 0, none⟩) (evs.length + 8) c) (evs.length + 8) (flatE (evs ++ marksE 8)) → OwnPost w evs (.returned (.slice (some ⟨g, 0, none⟩) evs.length c)) w') := fun g c w' h1 h2 => ⟨h1, g, c, rfl, h2⟩
  obtain ⟨n, hn⟩ : ∃ n, Hid (evs.length = n) := ⟨_, rfl⟩
  rw [hn.out] at hlen hpost ⊢
  go_enter Try.func7, Try.ntmps7
  go_wp2_with (at_builtin; refine wpList_append_evs w rfl _ _ rfl a cap evs hE (by rw [hn.out]; exact hlen) rfl (by rw [hn.out]; rfl) ?_; intro g0 c0 W1 hB1 hO1; rw [hn.out] at hO1 ⊢)
  replace hE := hid_of hE
  go_loopw [3, 4] (fun full i wr => ∃ (k g c : Nat), k ≤ 8 ∧ full = .slice (some ⟨g, 0, none⟩) (n + k) c ∧ i = .int .i64 k ∧ Below w.heap.size w wr ∧ wr.ownsRow w.heap.size 57 4 (.slice (some ⟨g, 0, none⟩) (n + k) c) (n + k) (flatE (evs ++ marksE k))) (fun _ i _ => 8 - (intOf i).toNat)
  case atStart => exact ⟨0, g0, c0, by decide, rfl, rfl, hB1, by simpa [marksE] using hO1⟩
  case round =>
    obtain ⟨k, g, c, hk8, rfl, rfl, hB, hO⟩ := hrel
    have hc8 : n + k ≤ c := by
      rcases hO.2 with ⟨h, _⟩ | ⟨g', c', cur, h, _, _, h2, _⟩
      · cases h
      · cases h; exact h2
    by_cases hk : k < 8
    · have hone : ∀ u ∈ [Value.int .i64 (100 + (k : Int)), .int .i64 0, .int .i64 0, .int .i64 0], u.oneCell' = true := fun u hu => flatE_one [⟨100 + (k : Nat), 0, 0, 0⟩] u (by simpa [flatE, cellsE] using hu)
      have hBs := hB.size
      obtain ⟨hm1, hm2⟩ := own_bd hlen hk
      replace hm1 := hid_of hm1
      replace hm2 := hid_of hm2
      replace hBs := hid_of hBs
      replace hB := hid_of hB
      go_wp2_with (at_builtin; go_must (refine wpList_append_lies _ rfl _ _ 22 rfl w.heap.size 57 ri _ 4 32 ev_u hri hri1 hri2 hri3 rfl (by decide) _ (n + k) (flatE (evs ++ marksE k)) rfl (hO.alloc _) _ 1 1 [.int .i64 (100 + (k : Int)), .int .i64 0, .int .i64 0, .int .i64 0] rfl rfl (World.news_of_block (heap_alloc_new wr _)) hone (by decide) hm1.out hm2.out (Nat.le_trans hBs.out (Nat.le_of_lt (World.size_alloc_lt wr _))) _ rfl ?_; intro g1 c1 W2 r1 r2 r3 r4; replace r1 := hid_of r1; replace r2 := hid_of r2; clear r3 r4))
      have hB2 : Below w.heap.size w W2 := (hB.out.alloc hBs.out _).grown r2.out (by have := hBs.out; simp only [World.size_alloc]; omega) (fun j e => by
        cases e
        rcases hO.2 with ⟨h, _⟩ | ⟨g', c', cur, h, h2, _⟩
        · cases h
        · cases h; exact h2)
      have hO2 : W2.ownsRow w.heap.size 57 4 (.slice (some ⟨g1, 0, none⟩) (n + k + 1) c1) (n + k + 1) (flatE (evs ++ marksE (k + 1))) := by
        rw [marksE_succ, ← List.append_assoc, flatE_snoc]
        exact r1.out
      clear r1 r2
      go_wp2_with fail
      go_roundw
      · exact ⟨k + 1, g1, c1, by omega, rfl, by simp, hB2, hO2⟩
      · simp only [intOf]
        omega
    · obtain rfl : k = 8 := by omega
      have hci : (n : Int) ≤ (c : Int) := by omega
      have hc0 : ¬ c = 0 := by omega
      replace hO := hid_of hO
      replace hB := hid_of hB
      go_wp2_with fail
      exact bodyPost_ret (v := .slice (some ⟨g, 0, none⟩) n c) (by simp [results, Try.results7, go_sem]) rfl (hpost.out g c wr hB.out hO.out)
/-- What own hands back, as the rest reads it. -/
theorem own_evs {w w' : World} {evs : List Ev} {g cap : Nat} (h : w'.ownsRow w.heap.size 57 4 (.slice (some ⟨g, 0, none⟩) (evs.length + 8) cap) (evs.length + 8) (flatE (evs ++ marksE 8))) : EvsAt w' (some ⟨g, 0, none⟩) evs ∧ evs.length + 8 ≤ cap ∧ cap ≤ maxLen ∧ w.heap.size ≤ g ∧ g < w'.heap.size := by
  have hc := h.cellAt
  rcases h.2 with ⟨h1, _⟩ | ⟨g', c', cur, h1, h2, h3, h4, h5, _⟩
  · cases h1
  · cases h1
    have hg := (Array.getElem?_eq_some_iff.1 h3).1
    refine ⟨evsAt_of hg (fun j u hu => ?_), h4, h5, h2, hg⟩
    have hl := (List.getElem?_eq_some_iff.1 hu).1
    rw [flatE_len] at hl
    rw [hc j (by omega), flatE, List.flatMap_append, List.getElem?_append_left (by have := flatE_len evs; unfold flatE at this; omega)]
    exact hu
end Go.Proofs.Ytdgdfpgekccibab
