import Derived.Test.YtnhijkmddfhcbaaGreatDoorW12
import Derived.Recover
import Derived.Laws.Pointers
namespace Go.Proofs.YtnhijkmddfhcbaaGreatDoor
open Go Go.RowKit Go.Maps

theorem catch_idle (p q : Addr) (w : World) :
    CallsD Tryz.prog 26 #[.pointer (some p), .pointer (some q)] .returning w fun e u' w' => e = .returned (.tuple #[]) ∧ u' = .returning ∧ w' = w := by
  refine callsD_of_wpS Tryz.func26 rfl fun c₀ cs hu => ?_
  apply wpS_seq
  apply wpS_region
  simp [wpOpsS, go_sem, recoverD, hu, Tryz.ntmps26, Exit.thenS]
  refine wpS_of_wp ?_
  go_wp2
  cases c₀
  simp_all [bodyPostS, results, Tryz.results26]
theorem ta38 (v : Value) (w : World) : (Instr.typeAssert (.iface 49 v) 20 49 true).run Tryz.prog w = .ok (.tuple #[v, .bool true]) w := by kernel_rfl
theorem en38 (v : Value) (w : World) : (binOp .eql 20 (.iface 49 v) .nilIface).run Tryz.prog w = .ok (.bool false) w := by kernel_rfl
theorem rep11 : (Array.replicate 11 undef : Array Value) = #[undef, undef, undef, undef, undef, undef, undef, undef, undef, undef, undef] := rfl
/-- What the deferred function leaves: v zero, f told; else nothing has turned. -/
structure Caught (pv pf : Nat) (e p : Int) (w w' : World) : Prop where
  cv : w'.heap[pv]? = some (.cells #[.int .i64 0, .int .i64 0, .string noS, .slice none 0 0, .slice none 0 0] 26 (0, 0))
  cf : w'.heap[pf]? = some (.cells #[.int .i64 e, .int .i64 p] 49 (0, 0))
  os : w'.os = w.os
  tape : w'.tape = w.tape
  output : w'.output = w.output
  size : w.heap.size ≤ w'.heap.size
  block : ∀ k, k < w.heap.size → k ≠ pv → k ≠ pf → w'.heap[k]? = w.heap[k]?
theorem put2 {w : World} {g : Nat} {c0 c1 : Value} {t : TypeId} (h : w.heap[g]? = some (.cells #[c0, c1] t (0, 0))) (a0 a1 : Value) : ((w.setCell ⟨g, 0, none⟩ a0).setCell ⟨g, 1, none⟩ a1).heap[g]? = some (.cells #[a0, a1] t (0, 0)) := by
  simp [World.setCell, Array.getElem?_modify, h]
theorem put5_at {w : World} {g : Nat} {c0 c1 c2 c3 c4 : Value} {t : TypeId} (h : w.heap[g]? = some (.cells #[c0, c1, c2, c3, c4] t (0, 0))) (a0 a1 a2 a3 a4 : Value) : (put5 w g 0 a0 a1 a2 a3 a4).heap[g]? = some (.cells #[a0, a1, a2, a3, a4] t (0, 0)) := by
  simp [put5, World.setCell, Array.getElem?_modify, h]
theorem caught_alloc {pv pf : Nat} {e p : Int} {w X : World} (o : Obj) (lv : pv < w.heap.size) (lf : pf < w.heap.size) (cv : X.heap[pv]? = some (.cells #[.int .i64 0, .int .i64 0, .string noS, .slice none 0 0, .slice none 0 0] 26 (0, 0))) (cf : X.heap[pf]? = some (.cells #[.int .i64 e, .int .i64 p] 49 (0, 0)))
    (h1 : X.os = w.os) (h2 : X.tape = w.tape) (h3 : X.output = w.output) (h4 : X.heap.size = w.heap.size) (h5 : ∀ k, k < w.heap.size → k ≠ pv → k ≠ pf → X.heap[k]? = w.heap[k]?) : Caught pv pf e p w (X.alloc o).drew :=
  ⟨(alloc_old (by omega)).trans cv, (alloc_old (by omega)).trans cf, h1, h2, h3, by show w.heap.size ≤ (X.alloc o).heap.size; rw [World.size_alloc]; omega, fun k hk a b => (alloc_old (by omega)).trans (h5 k hk a b)⟩
theorem caught_of {pv pf : Nat} {e p : Int} {w : World} {c0 c1 c2 c3 c4 d0 d1 : Value} (hne : pv ≠ pf) (cv : w.heap[pv]? = some (.cells #[c0, c1, c2, c3, c4] 26 (0, 0))) (cf : w.heap[pf]? = some (.cells #[d0, d1] 49 (0, 0))) :
    Caught pv pf e p w ((((put5 w pv 0 (.int .i64 0) (.int .i64 0) (.string noS) (.slice none 0 0) (.slice none 0 0)).setCell ⟨pf, 0, none⟩ (.int .i64 e)).setCell ⟨pf, 1, none⟩ (.int .i64 p)).alloc (.cells #[.int .i64 e, .int .i64 p] 49)).drew := by
  have lv : pv < w.heap.size := (Array.getElem?_eq_some_iff.1 cv).1
  have lf : pf < w.heap.size := (Array.getElem?_eq_some_iff.1 cf).1
  refine caught_alloc _ lv lf ?_ ?_ ?_ ?_ ?_ ?_ ?_
  · rw [Below.heap_setCell _ _ _ _ hne, Below.heap_setCell _ _ _ _ hne]; exact put5_at cv _ _ _ _ _
  · exact put2 ((put5_far _ _ _ _ _ (Ne.symm hne)).trans cf) _ _
  · rw [set_os, set_os, put5_os]
  · rw [set_tape, set_tape, put5_tape]
  · rw [set_out, set_out, put5_out]
  · rw [Kp.sz_set, Kp.sz_set, put5_size]
  · intro k hk h1 h2
    rw [Below.heap_setCell _ _ _ _ h2, Below.heap_setCell _ _ _ _ h2, put5_far _ _ _ _ _ h1]
theorem catch_fault (pv pf : Nat) (e p : Int) (hne : pv ≠ pf) (w : World) (c0 c1 c2 c3 c4 : Value) (cv : w.heap[pv]? = some (.cells #[c0, c1, c2, c3, c4] 26 (0, 0))) (cf : w.heap[pf]? = some (.cells #[.int .i64 0, .int .i64 0] 49 (0, 0))) :
    CallsD Tryz.prog 26 #[.pointer (some ⟨pv, 0, none⟩), .pointer (some ⟨pf, 0, none⟩)] (.panicking (faultC e p)) w fun e' u' w' => e' = .returned (.tuple #[]) ∧ u' = .panicking [{ v := faultV e p, recovered := true }] ∧ Caught pv pf e p w w' := by
  refine callsD_of_wpS Tryz.func26 rfl fun c₀ cs hu => ?_
  apply wpS_seq
  apply wpS_region
  unfold faultC faultV at hu
  simp [wpOpsS, go_sem, recoverD, hu, Tryz.ntmps26, Exit.thenS, rep11]
  refine wpS_of_wp ?_
  have v0 : w.cell? ⟨pv, 0, none⟩ = some c0 := cell_of cv 0
  have v1 : w.cell? ⟨pv, 1, none⟩ = some c1 := cell_of cv 1
  have v2 : w.cell? ⟨pv, 2, none⟩ = some c2 := cell_of cv 2
  have v3 : w.cell? ⟨pv, 3, none⟩ = some c3 := cell_of cv 3
  have v4 : w.cell? ⟨pv, 4, none⟩ = some c4 := cell_of cv 4
  have vf := fun o => frozen_of cv o
  have f0 : w.cell? ⟨pf, 0, none⟩ = some (.int .i64 0) := cell_of cf 0
  have f1 : w.cell? ⟨pf, 1, none⟩ = some (.int .i64 0) := cell_of cf 1
  have ff := fun o => frozen_of cf o
  have lv : pv < w.heap.size := (Array.getElem?_eq_some_iff.1 cv).1
  have lf : pf < w.heap.size := (Array.getElem?_eq_some_iff.1 cf).1
  have HU := hu
  have HU' : Hid (c₀.mode = FrameMode.panicking [{ v := Value.iface 49 (Value.agg #[Value.int IntKind.i64 e, Value.int IntKind.i64 p]), recovered := false }]) := hu
  clear HU hu
  have CV : Hid (w.heap[pv]? = some (.cells #[c0, c1, c2, c3, c4] 26 (0, 0))) := cv
  have n1 : ¬ pv = w.heap.size := by omega
  have n2 : ¬ pf = w.heap.size := by omega
  have n3 : ¬ pf = pv := fun h => hne h.symm
  have CF : Hid (w.heap[pf]? = some (.cells #[.int .i64 0, .int .i64 0] 49 (0, 0))) := cf
  clear cv cf
  have ta := ta38
  have en := en38
  go_wp2
  go_region
  have hC : Caught pv pf e p w ((((((((w.setCell ⟨pv, 0, none⟩ (.int .i64 0)).setCell ⟨pv, 1, none⟩ (.int .i64 0)).setCell ⟨pv, 2, none⟩ (.string noS)).setCell ⟨pv, 3, none⟩ (.slice none 0 0)).setCell ⟨pv, 4, none⟩ (.slice none 0 0)).setCell ⟨pf, 0, none⟩ (.int .i64 e)).setCell ⟨pf, 1, none⟩ (.int .i64 p)).alloc (.cells #[.int .i64 e, .int .i64 p] 49)).drew :=
    caught_of hne CV.out CF.out
  go_wp2
  have HC : Hid (Caught pv pf e p w ((((((((w.setCell ⟨pv, 0, none⟩ (.int .i64 0)).setCell ⟨pv, 1, none⟩ (.int .i64 0)).setCell ⟨pv, 2, none⟩ (.string noS)).setCell ⟨pv, 3, none⟩ (.slice none 0 0)).setCell ⟨pv, 4, none⟩ (.slice none 0 0)).setCell ⟨pf, 0, none⟩ (.int .i64 e)).setCell ⟨pf, 1, none⟩ (.int .i64 p)).alloc (.cells #[.int .i64 e, .int .i64 p] 49)).drew) := hC
  clear hC
  exact ⟨rfl, _, rfl, .tuple #[], by simp [results, Tryz.results26, go_sem], rfl, rfl, HC.out⟩

/-- The whole text. -/
def tailR (T : ByteArray) : Res J → Res J
  | .bad e p => .bad e p
  | .ok j n => if skip T n < T.size then .bad 4 (skip T n) else .ok j 0
def wholeR (T : ByteArray) (tx : Nat → Res ByteArray) : Res J := tailR T (valR T tx 64 (skip T 0))
def WPost (w : World) (e : Ending) (w' : World) : Res J → Prop
  | .ok j _ => ∃ (kd x : Int) (s : ByteArray) (a1 : Option Addr) (l1 c1 : Nat) (a2 : Option Addr) (l2 c2 : Nat), e = .returned (.tuple #[.agg #[.int .i64 kd, .int .i64 x, .string s, .slice a1 l1 c1, .slice a2 l2 c2], .agg #[.int .i64 0, .int .i64 0]]) ∧
      Rep w' w.heap.size w'.heap.size j (five kd x s (.slice a1 l1 c1) (.slice a2 l2 c2))
  | .bad er p => e = .returned (.tuple #[.agg #[.int .i64 0, .int .i64 0, .string noS, .slice none 0 0, .slice none 0 0], .agg #[.int .i64 er, .int .i64 p]])

def wWh (w : World) : World := (w.alloc (.cells #[.int .i64 0, .int .i64 0, .string noS, .slice none 0 0, .slice none 0 0] 26)).alloc (.cells #[.int .i64 0, .int .i64 0] 49)
theorem wWh_size (w : World) : (wWh w).heap.size = w.heap.size + 2 := by simp [wWh]
theorem wWh_old (w : World) {k : Nat} (h : k < w.heap.size) : (wWh w).heap[k]? = w.heap[k]? := by
  unfold wWh; rw [alloc_old (by simp; omega), alloc_old h]
theorem wWh_0 (w : World) : (wWh w).heap[w.heap.size]? = some (.cells #[.int .i64 0, .int .i64 0, .string noS, .slice none 0 0, .slice none 0 0] 26 (0, 0)) := by
  unfold wWh; rw [alloc_old (by simp), alloc_at rfl]
theorem wWh_1 (w : World) : (wWh w).heap[w.heap.size + 1]? = some (.cells #[.int .i64 0, .int .i64 0] 49 (0, 0)) := by
  unfold wWh; rw [alloc_at (by simp)]
theorem wWh_kp (w : World) (b : Nat) : Kp b w (wWh w) := ((Kp.refl b w).alloc _).alloc _
theorem Caught.kp {pv pf b : Nat} {e p : Int} {w0 w w' : World} (h : Caught pv pf e p w w') (hk : Kp b w0 w) (h1 : w0.heap.size ≤ pv) (h2 : w0.heap.size ≤ pf) : Kp b w0 w' :=
  ⟨h.os.trans hk.os, h.tape.trans hk.tape, h.output.trans hk.output, Nat.le_trans hk.size h.size, fun k hk' hb => (h.block k (Nat.lt_of_lt_of_le hk' hk.size) (by omega) (by omega)).trans (hk.block k hk' hb)⟩

theorem Rep.up {w : World} {lo hi hi2 : Nat} (j : J) (cs : List Value) (h : Rep w lo hi j cs) (hl : hi ≤ hi2) : Rep w lo hi2 j cs := by
  cases j with
  | list l =>
    unfold Rep at *
    obtain ⟨it, xs, h1, h2, h3, h4⟩ := h
    exact ⟨it, xs, h1, h2, fun g hg => Nat.lt_of_lt_of_le (h3 g hg) hl, RepL.up _ _ h4 hl⟩
  | obj ns l =>
    unfold Rep at *
    obtain ⟨nm, it, xs, h1, h2, h3, h4, h5, h6, h7⟩ := h
    exact ⟨nm, it, xs, h1, h2, fun g hg => Nat.lt_of_lt_of_le (h3 g hg) hl, h4, fun g hg => Nat.lt_of_lt_of_le (h5 g hg) hl, h6, RepL.up _ _ h7 hl⟩
  | _ => exact h
theorem whole_fin {b hi : Nat} {w w4 W : World} {j : J} {kd x : Int} {s : ByteArray} {a1 : Option Addr} {l1 c1 : Nat} {a2 : Option Addr} {l2 c2 : Nat}
    (hK : Kp b w w4) (hhi : hi ≤ w4.heap.size) (hrep : Rep w4 (w.heap.size + 2) hi j (five kd x s (.slice a1 l1 c1) (.slice a2 l2 c2)))
    (hW : W = ((put5 w4 w.heap.size 0 (.int .i64 kd) (.int .i64 x) (.string s) (.slice a1 l1 c1) (.slice a2 l2 c2)).setCell ⟨w.heap.size + 1, 0, none⟩ (.int .i64 0)).setCell ⟨w.heap.size + 1, 1, none⟩ (.int .i64 0)) :
    WPost w (.returned (.tuple #[.agg #[.int .i64 kd, .int .i64 x, .string s, .slice a1 l1 c1, .slice a2 l2 c2], .agg #[.int .i64 0, .int .i64 0]])) W (.ok j 0) ∧ Kp b w W := by
  have hsz : W.heap.size = w4.heap.size := by rw [hW, Kp.sz_set, Kp.sz_set, put5_size]
  have hfar : ∀ k, w.heap.size + 2 ≤ k → W.heap[k]? = w4.heap[k]? := fun k hk => by
    rw [hW, Below.heap_setCell _ _ _ _ (by show k ≠ w.heap.size + 1; omega), Below.heap_setCell _ _ _ _ (by show k ≠ w.heap.size + 1; omega), put5_far _ _ _ _ _ (by omega)]
  refine ⟨⟨kd, x, s, a1, l1, c1, a2, l2, c2, rfl, ?_⟩, ?_⟩
  · exact Rep.down j _ (Rep.up j _ (Rep.keep j _ hrep (fun k ka kb => hfar k ka)) (by omega)) (by omega)
  · rw [hW]
    exact ((put5_kp hK (Nat.le_refl _) _ _ _ _ _ _).setNew (by show w.heap.size ≤ w.heap.size + 1; omega) _).setNew (by show w.heap.size ≤ w.heap.size + 1; omega) _

set_option maxHeartbeats 1000000 in
theorem whole_any (b : Nat) (T : ByteArray) (tx : Nat → Res ByteArray) (hQ : QuotedOk T tx) (w : World) (hA : At b T 0 w) (hE : Env w) (hb8 : 8 ≤ b) (hT : T.size ≤ 65536) :
    Calls Tryz.prog 20 #[.pointer (some ⟨b, 0, none⟩)] w fun e w' => WPost w e w' (wholeR T tx) ∧ Kp b w w' := by
  have hmf : ∀ (fn : Fn) (first cap : Array Value) (w : World), (Instr.makeFunc fn first cap).run Tryz.prog w = .ok (.func fn first cap) w := fun _ _ _ _ => rfl
  have hV := value_any T tx hQ hT 64 (Nat.le_refl _)
  have hbl := hA.lt
  have hAw : At b T 0 (wWh w) := (wWh_old w hbl).trans hA
  have hsw := wWh_size w
  have HSW : Hid ((wWh w).heap.size = w.heap.size + 2) := hsw
  have HR0 : Hid (wholeR T tx = tailR T (valR T tx 64 (skip T 0))) := rfl
  have hE0 : Env (wWh w) := hE.keep (fun k hk => wWh_old w (by omega))
  clear hE hsw
  go_enter_defers Tryz.func20, Tryz.ntmps20
  go_wp2_with fail
  refine (blanks_any b 0 T (wWh w) hAw (Nat.zero_le _) hT).mono ?_
  rintro e w1 ⟨rfl, hA1, hK1, hs1, _, hn1⟩
  have hs1' : w1.heap.size = w.heap.size + 2 := hs1.trans HSW.out
  have HS1 : Hid (w1.heap.size = w.heap.size + 2) := hs1'
  have hE1 : Env w1 := hE0.keep (fun k hk => hK1.block k (by rw [HSW.out]; omega) (by omega))
  have p0 := (hK1.block w.heap.size (by rw [HSW.out]; omega) (by omega)).trans (wWh_0 w)
  have p1 := (hK1.block (w.heap.size + 1) (by rw [HSW.out]; omega) (by omega)).trans (wWh_1 w)
  have P0 : Hid (w1.heap[w.heap.size]? = some (.cells #[.int .i64 0, .int .i64 0, .string noS, .slice none 0 0, .slice none 0 0] 26 (0, 0))) := p0
  have P1 : Hid (w1.heap[w.heap.size + 1]? = some (.cells #[.int .i64 0, .int .i64 0] 49 (0, 0))) := p1
  clear hs1 hs1' p0 p1
  generalize skip T 0 = m at *
  have hKw1 : Kp b w w1 := (wWh_kp w b).trans hK1
  go_wp2_with fail
  refine (hV b m 0 w1 hA1 hE1 hb8 hn1 (by omega)).mono ?_
  intro e w2 hp
  cases hv : valR T tx 64 m with
  | bad er p =>
    rw [hv] at hp
    obtain ⟨rfl, hK2⟩ := hp
    have HR : Hid (wholeR T tx = .bad er p) := by unfold Hid; rw [HR0.out, hv]; rfl
    have c0 := (hK2.block w.heap.size (by rw [HS1.out]; omega) (by omega)).trans P0.out
    have c1 := (hK2.block (w.heap.size + 1) (by rw [HS1.out]; omega) (by omega)).trans P1.out
    clear hv HR0
    go_wp2_with fail
    refine leaves_cons (f := 26) (args := #[.pointer (some ⟨w.heap.size, 0, none⟩), .pointer (some ⟨w.heap.size + 1, 0, none⟩)]) (by simp) (by simp [go_sem]) ?_
    refine (catch_fault w.heap.size (w.heap.size + 1) er p (by omega) w2 _ _ _ _ _ c0 c1).mono ?_
    rintro e u' w3 ⟨rfl, rfl, hC⟩
    have hKC : Kp b w w3 := hC.kp (hKw1.trans hK2) (Nat.le_refl _) (by omega)
    have d0 : w3.cell? ⟨w.heap.size, 0, none⟩ = some (.int .i64 0) := cell_of hC.cv 0
    have d1 : w3.cell? ⟨w.heap.size, 1, none⟩ = some (.int .i64 0) := cell_of hC.cv 1
    have d2 : w3.cell? ⟨w.heap.size, 2, none⟩ = some (.string noS) := cell_of hC.cv 2
    have d3 : w3.cell? ⟨w.heap.size, 3, none⟩ = some (.slice none 0 0) := cell_of hC.cv 3
    have d4 : w3.cell? ⟨w.heap.size, 4, none⟩ = some (.slice none 0 0) := cell_of hC.cv 4
    have f0 : w3.cell? ⟨w.heap.size + 1, 0, none⟩ = some (.int .i64 er) := cell_of hC.cf 0
    have f1 : w3.cell? ⟨w.heap.size + 1, 1, none⟩ = some (.int .i64 p) := cell_of hC.cf 1
    simp [Leaves, settle, results, Tryz.results20, go_sem, d0, d1, d2, d3, d4, f0, f1]
    rw [HR.out]
    exact ⟨rfl, hKC⟩
  | ok j n1 =>
    rw [hv] at hp
    obtain ⟨kd, x, s, a1, l1, c1, a2, l2, c2, rfl, hrep, hA2, hK2, hl1, hl2⟩ := hp
    have HR1 : Hid (wholeR T tx = tailR T (.ok j n1)) := by unfold Hid; rw [HR0.out, hv]
    have hs2 : w.heap.size + 2 ≤ w2.heap.size := by have := hK2.size; rw [HS1.out] at this; exact this
    have q0 := (hK2.block w.heap.size (by rw [HS1.out]; omega) (by omega)).trans P0.out
    have q1 := (hK2.block (w.heap.size + 1) (by rw [HS1.out]; omega) (by omega)).trans P1.out
    have Q1 : Hid (w2.heap[w.heap.size + 1]? = some (.cells #[.int .i64 0, .int .i64 0] 49 (0, 0))) := q1
    have Q0 : Hid (w2.heap[w.heap.size]? = some (.cells #[.int .i64 0, .int .i64 0, .string noS, .slice none 0 0, .slice none 0 0] 26 (0, 0))) := q0
    have r0 : w2.cell? ⟨w.heap.size, 0, none⟩ = some (.int .i64 0) := cell_of q0 0
    have r1 : w2.cell? ⟨w.heap.size, 1, none⟩ = some (.int .i64 0) := cell_of q0 1
    have r2 : w2.cell? ⟨w.heap.size, 2, none⟩ = some (.string noS) := cell_of q0 2
    have r3 : w2.cell? ⟨w.heap.size, 3, none⟩ = some (.slice none 0 0) := cell_of q0 3
    have r4 : w2.cell? ⟨w.heap.size, 4, none⟩ = some (.slice none 0 0) := cell_of q0 4
    have rf := fun o => frozen_of q0 o
    have hKw2 : Kp b w w2 := hKw1.trans hK2
    have hrep' : Rep w2 (w.heap.size + 2) w2.heap.size j (five kd x s (.slice a1 l1 c1) (.slice a2 l2 c2)) := by have h := hrep; rw [HS1.out] at h; exact h
    clear hv HR0 q0 q1 hrep
    go_wp2_with fail
    refine (blanks_any b n1 T (put5 w2 w.heap.size 0 (.int .i64 kd) (.int .i64 x) (.string s) (.slice a1 l1 c1) (.slice a2 l2 c2)) ((put5_far _ _ _ _ _ (by omega)).trans hA2) hl2 hT).mono ?_
    rintro e w4 ⟨rfl, hA4, hK4, hs4, hb1, hb2⟩
    have hs4' : w4.heap.size = w2.heap.size := hs4.trans (put5_size _ _ _ _ _ _ _ _)
    have HS4 : Hid (w4.heap.size = w2.heap.size) := hs4'
    have hKw4 : Kp b w w4 := (put5_kp hKw2 (Nat.le_refl _) _ _ _ _ _ _).trans hK4
    have c0 := (hK4.block w.heap.size (by rw [put5_size]; omega) (by omega)).trans (put5_at Q0.out _ _ _ _ _)
    have c1' := (hK4.block (w.heap.size + 1) (by rw [put5_size]; omega) (by omega)).trans ((put5_far _ _ _ _ _ (by omega)).trans Q1.out)
    have hrep4 : Rep w4 (w.heap.size + 2) w2.heap.size j (five kd x s (.slice a1 l1 c1) (.slice a2 l2 c2)) := Rep.keep j _ hrep' (fun k ka kb => (hK4.block k (by rw [put5_size]; omega) (by omega)).trans (put5_far _ _ _ _ _ (by omega)))
    have HT : Hid (tailR T (.ok j n1) = if skip T n1 < T.size then .bad 4 (skip T n1) else .ok j 0) := rfl
    clear hs4 hs4' r0 r1 r2 r3 r4 rf hrep' hK4
    generalize skip T n1 = m4 at *
    have x0 := hA4.c0
    have x1 := hA4.c1
    by_cases hlt : m4 < T.size
    · have hd1 : decide ((m4 : Int) < (T.size : Int)) = true := by simp; omega
      have HR : Hid (wholeR T tx = .bad 4 m4) := by unfold Hid; rw [HR1.out, HT.out, if_pos hlt]
      have C0 : Hid (w4.heap[w.heap.size]? = some (.cells #[.int .i64 kd, .int .i64 x, .string s, .slice a1 l1 c1, .slice a2 l2 c2] 26 (0, 0))) := c0
      have C1 : Hid (w4.heap[w.heap.size + 1]? = some (.cells #[.int .i64 0, .int .i64 0] 49 (0, 0))) := c1'
      clear c0 c1' HR1 HT
      go_wp2_with fail
      go_quiet (fail)
      go_wp2_with fail
      refine leaves_cons (f := 26) (args := #[.pointer (some ⟨w.heap.size, 0, none⟩), .pointer (some ⟨w.heap.size + 1, 0, none⟩)]) (by simp) (by simp [go_sem]) ?_
      refine (catch_fault w.heap.size (w.heap.size + 1) 4 m4 (by omega) (w4.drewN nq) _ _ _ _ _ C0.out C1.out).mono ?_
      rintro e u' w3 ⟨rfl, rfl, hC⟩
      have hKC : Kp b w w3 := hC.kp (hKw4.drewN nq) (Nat.le_refl _) (by omega)
      have d0 : w3.cell? ⟨w.heap.size, 0, none⟩ = some (.int .i64 0) := cell_of hC.cv 0
      have d1 : w3.cell? ⟨w.heap.size, 1, none⟩ = some (.int .i64 0) := cell_of hC.cv 1
      have d2 : w3.cell? ⟨w.heap.size, 2, none⟩ = some (.string noS) := cell_of hC.cv 2
      have d3 : w3.cell? ⟨w.heap.size, 3, none⟩ = some (.slice none 0 0) := cell_of hC.cv 3
      have d4 : w3.cell? ⟨w.heap.size, 4, none⟩ = some (.slice none 0 0) := cell_of hC.cv 4
      have f0 : w3.cell? ⟨w.heap.size + 1, 0, none⟩ = some (.int .i64 4) := cell_of hC.cf 0
      have f1 : w3.cell? ⟨w.heap.size + 1, 1, none⟩ = some (.int .i64 m4) := cell_of hC.cf 1
      simp [Leaves, settle, results, Tryz.results20, go_sem, d0, d1, d2, d3, d4, f0, f1]
      rw [HR.out]
      exact ⟨rfl, hKC⟩
    · have hd1 : decide ((m4 : Int) < (T.size : Int)) = false := by simp; omega
      have HR : Hid (wholeR T tx = .ok j 0) := by unfold Hid; rw [HR1.out, HT.out, if_neg hlt]
      have v0 : w4.cell? ⟨w.heap.size, 0, none⟩ = some (.int .i64 kd) := cell_of c0 0
      have v1 : w4.cell? ⟨w.heap.size, 1, none⟩ = some (.int .i64 x) := cell_of c0 1
      have v2 : w4.cell? ⟨w.heap.size, 2, none⟩ = some (.string s) := cell_of c0 2
      have v3 : w4.cell? ⟨w.heap.size, 3, none⟩ = some (.slice a1 l1 c1) := cell_of c0 3
      have v4 : w4.cell? ⟨w.heap.size, 4, none⟩ = some (.slice a2 l2 c2) := cell_of c0 4
      have vf := fun o => frozen_of c0 o
      have g0 : w4.cell? ⟨w.heap.size + 1, 0, none⟩ = some (.int .i64 0) := cell_of c1' 0
      have g1 : w4.cell? ⟨w.heap.size + 1, 1, none⟩ = some (.int .i64 0) := cell_of c1' 1
      have gf := fun o => frozen_of c1' o
      clear c0 c1' HR1 HT
      go_wp2_with fail
      go_quiet (fail)
      go_wp2_with fail
      refine leaves_cons (f := 26) (args := #[.pointer (some ⟨w.heap.size, 0, none⟩), .pointer (some ⟨w.heap.size + 1, 0, none⟩)]) (by simp) (by simp [go_sem]) ?_
      refine (catch_idle ⟨w.heap.size, 0, none⟩ ⟨w.heap.size + 1, 0, none⟩ _).mono ?_
      rintro e u' w3 ⟨rfl, rfl, rfl⟩
      simp [Leaves, settle, results, Tryz.results20, go_sem, v0, v1, v2, v3, v4, g0, g1]
      rw [HR.out]
      exact whole_fin (w4 := w4.drewN nq) (hKw4.drewN nq) (by show w2.heap.size ≤ w4.heap.size; rw [HS4.out]; exact Nat.le_refl _) (Rep.keep j _ hrep4 (fun _ _ _ => rfl)) rfl
end Go.Proofs.YtnhijkmddfhcbaaGreatDoor
