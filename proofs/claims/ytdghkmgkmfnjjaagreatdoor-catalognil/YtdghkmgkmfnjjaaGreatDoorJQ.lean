import Derived.Test.YtdghkmgkmfnjjaaGreatDoorJP
import Derived.RangeFuncNested
import Derived.RangeFuncBound
import Derived.RangeFuncCalls
import Derived.RangeFuncLeaves
import Derived.Shelf.Abstract
import Derived.Shelf.RegionOpen
import Derived.OwnWalkIn
import Derived.TacticsInMore
import Derived.LoopNIn
import Derived.LoopIn
import Derived.OrdersIn
/-! A range of entries, gone over. -/
namespace Go.Proofs.YtdghkmgkmfnjjaaGreatDoor
open Go Go.RowKit Go.Shelf
attribute [local go_sem] Oper.semAt_some

theorem frozen_alloc' {W : World} {p : Addr} {v : Value} (h : W.cell? p = some v) (hf : W.frozen? p = false) (o : Obj) : (W.alloc o).frozen? p = false := by
  have hlt : p.block < W.heap.size := by
    rcases Nat.lt_or_ge p.block W.heap.size with h' | h'
    · exact h'
    · simp [World.cell?, Array.getElem?_eq_none h'] at h
  unfold World.frozen? at *
  rw [Below.heap_alloc _ _ _ hlt]; exact hf
/-- A box of one cell. -/
def Box1 (W : World) (B : Nat) (v : Value) : Prop := W.cell? ⟨B, 0, none⟩ = some v ∧ W.frozen? ⟨B, 0, none⟩ = false
theorem Box1.own {A B : World} {row : Option Nat} {g : Nat} {v : Value} (h : Box1 A g v) (hg : A.grownBy B row) (hr : ∀ r, row = some r → ∃ o, A.heap[r]? = some o ∧ o.isCells = false) : Box1 B g v := ⟨cell_kept h.1 hg hr, (frozen_kept h.1 hg hr).trans h.2⟩
theorem Box1.alloc {W : World} {g : Nat} {v : Value} (h : Box1 W g v) (o : Obj) : Box1 (W.alloc o) g v := ⟨cell_alloc' h.1 o, frozen_alloc' h.1 h.2 o⟩
theorem Box1.far {W W' : World} {g : Nat} {v : Value} (h : Box1 W g v) (hk : W'.heap[g]? = W.heap[g]?) : Box1 W' g v := by
  unfold Box1 at *
  unfold World.cell? World.frozen? at *
  rw [hk]; exact h
theorem Box1.lt {W : World} {g : Nat} {v : Value} (h : Box1 W g v) : g < W.heap.size := lt_of_cell h.1
theorem box1_of {W : World} {B : Nat} {v : Value} {t : TypeId} (h : W.heap[B]? = some (.cells #[v] t (0, 0))) : Box1 W B v := ⟨by simp [World.cell?, h], by simp [World.frozen?, h]⟩
theorem Box1.set {W : World} {g : Nat} {v : Value} (h : Box1 W g v) (u : Value) : Box1 (W.setCell ⟨g, 0, none⟩ u) g u := by
  obtain ⟨h1, h2⟩ := h
  cases hh : W.heap[g]? with
  | none => simp [World.cell?, hh] at h1
  | some o =>
    cases o with
    | cells cur t fz =>
      obtain ⟨lo, hi⟩ := fz
      have hp : (W.setCell ⟨g, 0, none⟩ u).heap[g]? = some (.cells (cur.setIfInBounds 0 u) t (lo, hi)) := by simp [World.setCell, Array.getElem?_modify, hh]
      have h5 : 0 < cur.size := by
        simp [World.cell?, hh] at h1
        exact (Array.getElem?_eq_some_iff.1 h1).1
      simp only [World.frozen?, hh] at h2
      refine ⟨?_, ?_⟩
      · simp [World.cell?, hp, h5]
      · simp only [World.frozen?, hp]; assumption
    | _ => simp [World.cell?, hh] at h1
theorem keepsOthers_below {W W' : World} (h : Below W.heap.size W W') : KeepsOthers W W' := ⟨h.size, fun k _ hk _ => (h.block k (Array.getElem?_eq_some_iff.1 hk).1).trans hk⟩
/-- What A has in the blocks of U, in cells, B has too. -/
def KpU (U : Nat → Prop) (A B : World) : Prop := ∀ p u, U p.block → A.cell? p = some u → B.cell? p = some u
theorem KpU.trans {U : Nat → Prop} {A B C : World} (h : KpU U A B) (h' : KpU U B C) : KpU U A C := fun p u hp hc => h' p u hp (h p u hp hc)
/-- A Value's five cells. -/
structure V5 where
  k : Int
  x : Int
  s : ByteArray
  an : Option Addr
  ln : Nat
  cn : Nat
  ai : Option Addr
  li : Nat
  ci : Nat
def V5.cells (t : V5) : List Value := [.int .i64 t.k, .int .i64 t.x, .string t.s, .slice t.an t.ln t.cn, .slice t.ai t.li t.ci]
def firsts (n q : Nat) : List (Fin n) := (List.finRange n).take q
theorem firsts_len (n q : Nat) (h : q ≤ n) : (firsts n q).length = q := by simp [firsts]; omega
theorem firsts_succ (n q : Nat) (h : q < n) : firsts n (q + 1) = firsts n q ++ [⟨q, h⟩] := by
  unfold firsts
  rw [List.take_add_one, List.getElem?_eq_getElem (by simpa using h)]
  simp
theorem firsts_all (n : Nat) : firsts n n = List.finRange n := by unfold firsts; rw [List.take_of_length_le (by simp)]
/-- The entries of a range, in blocks of U. -/
structure RangeAt (U : Nat → Prop) (w : World) (rbx ibx yb f t n N c : Nat) (a : Option Addr) (eb : Fin n → Nat) (tf : Fin n → V5) (kf : Fin n → ByteArray) : Prop where
  from0 : w.cell? ⟨rbx, 0, none⟩ = some (.int .i64 f)
  to0 : w.cell? ⟨rbx, 1, none⟩ = some (.int .i64 t)
  tt : t = f + n
  ix : w.cell? ⟨ibx, 0, none⟩ = some (.pointer (some ⟨yb, 0, none⟩))
  list : w.cell? ⟨yb, 4, none⟩ = some (.slice a N c)
  fit : t ≤ N
  small : N ≤ 4611686018427387904
  at_ : ∀ i : Fin n, ∃ g o, a = some ⟨g, o, none⟩ ∧ U g ∧ w.cell? ⟨g, o + (f + i.1), none⟩ = some (.pointer (some ⟨eb i, 0, none⟩))
  ent : ∀ i : Fin n, ∀ e u, ((tf i).cells ++ [.string (kf i)])[e]? = some u → w.cell? ⟨eb i, e, none⟩ = some u
  ur : U rbx
  ui : U ibx
  uy : U yb
  ue : ∀ i, U (eb i)
theorem RangeAt.keep {U : Nat → Prop} {w w' : World} {rbx ibx yb f t n N c : Nat} {a : Option Addr} {eb : Fin n → Nat} {tf : Fin n → V5} {kf : Fin n → ByteArray} (h : RangeAt U w rbx ibx yb f t n N c a eb tf kf) (hk : KpU U w w') : RangeAt U w' rbx ibx yb f t n N c a eb tf kf where
  from0 := hk _ _ h.ur h.from0
  to0 := hk _ _ h.ur h.to0
  tt := h.tt
  ix := hk _ _ h.ui h.ix
  list := hk _ _ h.uy h.list
  fit := h.fit
  small := h.small
  at_ := fun i => by
    obtain ⟨g, o, h1, h2, h3⟩ := h.at_ i
    exact ⟨g, o, h1, h2, hk _ _ h2 h3⟩
  ent := fun i e u he => hk _ _ (h.ue i) (h.ent i e u he)
  ur := h.ur
  ui := h.ui
  uy := h.uy
  ue := h.ue
theorem kpU_below {U : Nat → Prop} {w w' : World} (h : Below w.heap.size w w') : KpU U w w' := fun _ _ _ hc => stay h hc
/-- What a round answers. -/
def YO {α : Type} (J Jx : List α → World → Prop) (Kp : World → World → Prop) (pre : List α) (W1 : World) (b : Bool) (W' : World) : Prop := (b = true ∧ J pre W' ∧ Kp W1 W') ∨ (b = false ∧ Jx pre W')
theorem yo_of {α : Type} {J Jx : List α → World → Prop} {Kp : World → World → Prop} {pre : List α} {W1 W' : World} {e : Ending} (h : (e = .returned (.bool true) ∧ J pre W' ∧ Kp W1 W') ∨ (e = .returned (.bool false) ∧ Jx pre W')) : ∃ b, e = .returned (.bool b) ∧ YO J Jx Kp pre W1 b W' := by
  rcases h with ⟨rfl, h⟩ | ⟨rfl, h⟩
  · exact ⟨true, rfl, .inl ⟨rfl, h⟩⟩
  · exact ⟨false, rfl, .inr ⟨rfl, h⟩⟩
theorem un_not {b : Bool} {vv vn : Value} (h : Hid (Value.bool b = vv)) (h' : Hid (Value.bool (!b) = vn)) : ∀ W : World, (Op.unary .not vv).run Tryz.prog W = .ok vn W := by
  intro W
  rw [← h.out, ← h'.out]
  rfl
set_option maxRecDepth 100000 in
set_option maxHeartbeats 4000000 in
theorem within_n (F : Fence) (r : Nat) (hf : F.fn 71) (hro : F.round = none) (hr : 1 ≤ r) (rbx ibx yb f t n N c : Nat) (a : Option Addr) (eb : Fin n → Nat) (tf : Fin n → V5) (kf : Fin n → ByteArray) (U : Nat → Prop) (w : World) (hA : RangeAt U w rbx ibx yb f t n N c a eb tf kf) :
    SeqStopsK F r Tryz.prog 71 #[.pointer (some ⟨rbx, 0, none⟩), .pointer (some ⟨ibx, 0, none⟩)] (fun i : Fin n => #[Value.agg (tf i).cells.toArray, Value.string (kf i)]) (KpU U) (fun ys => ys = List.finRange n) (fun _ => True) n w := fun l J Jx W hW hJ _ hY h0 => by
  replace hA := hA.keep (kpU_below hW)
  have c0 := hA.from0
  have n2 := hA.small
  have n3 := hA.fit
  have n4 := hid_of hA.tt
  replace hA := hid_of hA
  refine callsIn_of_wp Tryz.func71 rfl hf ?_ hro
  simp only [Tryz.ntmps71, List.size_toArray, List.length_cons, List.length_nil, Nat.reduceAdd, Nat.reduceSub, Array.replicate_succ, Array.replicate_zero, List.push_toArray, List.append_toArray, List.nil_append, List.cons_append]
  replace hW := hid_of hW; replace hY := hid_of hY; replace hJ := hid_of hJ
  gi_wp2
  gi_loopw [4, 5] (fun i _ wr => ∃ q z : Nat, q ≤ n ∧ Hid (z = f + q) ∧ i = .int .i64 (z : Int) ∧ Hid (J (firsts n q) wr) ∧ Hid (KpU U W wr)) (fun i _ _ => t - (intOf i).toNat)
  case atStart => exact ⟨0, f, Nat.zero_le _, hid_of (by omega), rfl, hid_of h0, hid_of (fun _ _ _ h => h)⟩
  case round =>
    obtain ⟨q, z, hq, hz, rfl, hJ1, hK⟩ := hrel
    have hAr := hA.out.keep hK.out
    have t0 := hAr.to0
    by_cases hlt : q < n
    · have i1 : (z : Int) < (t : Int) := by have h1 := hz.out; have h2 := n4.out; omega
      have i2 : (0 : Int) ≤ (z : Int) := by omega
      have i3 : (z : Int) < (N : Int) := by omega
      have i4 : (z : Int) ≤ 4611686018427387904 := by omega
      have hd : decide ((z : Int) < (t : Int)) = true := by simpa using i1
      obtain ⟨g, o, rfl, hUg, hg⟩ := hAr.at_ ⟨q, hlt⟩
      rw [show f + (⟨q, hlt⟩ : Fin n).1 = z from hz.out.symm] at hg
      have x0 := hAr.ix
      have x1 := hAr.list
      have e0 := hAr.ent ⟨q, hlt⟩ 0 _ rfl
      have e1 := hAr.ent ⟨q, hlt⟩ 1 _ rfl
      have e2 := hAr.ent ⟨q, hlt⟩ 2 _ rfl
      have e3 := hAr.ent ⟨q, hlt⟩ 3 _ rfl
      have e4 := hAr.ent ⟨q, hlt⟩ 4 _ rfl
      have e5 := hAr.ent ⟨q, hlt⟩ 5 _ rfl
      have hJX : Hid (J (firsts n q) wr.drew) := hid_of (hJ.out _ wr wr.drew none hJ1.out ⟨rfl, rfl, rfl, Nat.le_refl _, fun _ _ _ => rfl⟩ (fun r e => by cases e))
      obtain ⟨fn, tmps, assign, body, hy, hR⟩ := hY.out (firsts n q) ⟨q, hlt⟩ wr.drew hJX.out (by rw [firsts_len n q hq]; exact hlt)
      unfold V5.cells at hy
      have hmix : (Tryz.prog).follows .mixedOrders = true := by kernel_rfl
      clear hAr
      gi_wp2
      refine wpIn_region_any hmix ?_
      refine wpAnyIn_take (i := 0) (v := .func (.yield l) #[] #[]) hro rfl (by kernel_rfl) (by kernel_rfl) (by kernel_rfl) (fun _ _ _ h => h) ⟨Or.inl ⟨by rfl, (by intro w'; go_simp)⟩, fun _ => rfl⟩ ?_
      simp only [Act.put, List.getElem_toArray, List.getElem_cons_zero, List.setIfInBounds_toArray, List.set_cons_zero, List.set_cons_succ]
      refine wpAnyIn_take (i := 1) (v := .pointer (some ⟨eb ⟨q, hlt⟩, 0, none⟩)) hro rfl (by kernel_rfl) (by kernel_rfl) (by kernel_rfl) (fun _ _ _ h => h) ⟨Or.inl ⟨by rfl, (by intro w'; go_simp)⟩, fun _ => rfl⟩ ?_
      simp only [Act.put, List.getElem_toArray, List.getElem_cons_zero, List.getElem_cons_succ, List.setIfInBounds_toArray, List.set_cons_zero, List.set_cons_succ]
      refine wpAnyIn_take (i := 2) (v := .pointer (some ⟨eb ⟨q, hlt⟩, 0, none⟩)) hro rfl (by kernel_rfl) (by kernel_rfl) (by kernel_rfl) (fun _ _ _ h => h) ⟨Or.inl ⟨by rfl, (by intro w'; go_simp)⟩, fun _ => rfl⟩ ?_
      simp only [Act.put, List.getElem_toArray, List.getElem_cons_zero, List.getElem_cons_succ, List.setIfInBounds_toArray, List.set_cons_zero, List.set_cons_succ]
      refine wpAnyIn_take (i := 3) (v := .pointer (some ⟨eb ⟨q, hlt⟩, 0, none⟩)) hro rfl (by kernel_rfl) (by kernel_rfl) (by kernel_rfl) (fun _ _ _ h => h) ⟨Or.inl ⟨by rfl, (by intro w'; go_simp)⟩, fun _ => rfl⟩ ?_
      simp only [Act.put, List.getElem_toArray, List.getElem_cons_zero, List.getElem_cons_succ, List.setIfInBounds_toArray, List.set_cons_zero, List.set_cons_succ]
      refine wpAnyIn_take (i := 5) (v := .pointer (some ⟨eb ⟨q, hlt⟩, 0, none⟩)) hro rfl (by kernel_rfl) (by kernel_rfl) (by kernel_rfl) (fun _ _ _ h => h) ⟨Or.inl ⟨by rfl, (by intro w'; go_simp)⟩, fun _ => rfl⟩ ?_
      simp only [Act.put, List.getElem_toArray, List.getElem_cons_zero, List.getElem_cons_succ, List.setIfInBounds_toArray, List.set_cons_zero, List.set_cons_succ]
      refine wpAnyIn_take (i := 6) (v := .pointer (some ⟨eb ⟨q, hlt⟩, 0, none⟩)) hro rfl (by kernel_rfl) (by kernel_rfl) (by kernel_rfl) (fun _ _ _ h => h) ⟨Or.inl ⟨by rfl, (by intro w'; go_simp)⟩, fun _ => rfl⟩ ?_
      simp only [Act.put, List.getElem_toArray, List.getElem_cons_zero, List.getElem_cons_succ, List.setIfInBounds_toArray, List.set_cons_zero, List.set_cons_succ]
      refine wpAnyIn_take (i := 7) (v := .pointer (some ⟨eb ⟨q, hlt⟩, 5, none⟩)) hro rfl (by kernel_rfl) (by kernel_rfl) (by kernel_rfl) (fun _ _ _ h => h) ⟨Or.inl ⟨by rfl, (by intro w'; go_simp)⟩, fun _ => rfl⟩ ?_
      simp only [Act.put, List.getElem_toArray, List.getElem_cons_zero, List.getElem_cons_succ, List.setIfInBounds_toArray, List.set_cons_zero, List.set_cons_succ]
      refine wpAnyIn_ready (rs := [4, 8]) (by kernel_rfl) (by simp) ?_
      refine AllReadyIn.cons rfl (fun Kr hKr => ?_) ?_
      · rw [if_pos (by rfl)]
        go_simp
        refine hKr _ _ ?_
        clear hKr Kr
        refine wpAnyIn_ready (rs := [8]) (by kernel_rfl) (by simp) ?_
        refine AllReadyIn.cons rfl (fun Kr hKr => ?_) ?_
        · rw [if_pos (by rfl)]
          go_simp
          refine hKr _ _ ?_
          clear hKr Kr
          refine wpAnyIn_ready (rs := [9]) (by kernel_rfl) (by simp) ?_
          refine AllReadyIn.cons rfl (fun Kr hKr => ?_) ?_
          · rw [if_pos (by rfl)]
            go_simp
            refine hR.mono ?_
            clear hR hy
            intro e W3 hout
            obtain ⟨b, rfl, hO⟩ := yo_of hout
            clear hout e0 e1 e2 e3 e4 e5 hg x0 x1 t0
            replace hO := hid_of hO
            simp only
            refine hKr _ _ ?_
            clear hKr Kr
            cases b
            · refine wpAnyIn_take (i := 10) (v := .bool true) hro rfl (by kernel_rfl) (by kernel_rfl) (by kernel_rfl) (fun _ _ _ h => h) ⟨Or.inl ⟨by rfl, (by intro w'; go_simp)⟩, fun _ => rfl⟩ ?_
              simp only [Act.put, List.getElem_toArray, List.getElem_cons_zero, List.getElem_cons_succ, List.setIfInBounds_toArray, List.set_cons_zero, List.set_cons_succ]
              refine wpAnyIn_done (by kernel_rfl) ?_ _
              obtain ⟨h, _⟩ | ⟨_, hJx3⟩ := hO.out
              · cases h
              clear hO
              gi_wp2
              refine bodyPost_ret (results_none rfl _ _ _) rfl ?_
              first | exact ⟨⟨_, rfl⟩, .inr ⟨_, trivial, hJx3⟩⟩ | exact ⟨⟨_, rfl⟩, .inr ⟨_, hJx3⟩⟩
            · refine wpAnyIn_take (i := 10) (v := .bool false) hro rfl (by kernel_rfl) (by kernel_rfl) (by kernel_rfl) (fun _ _ _ h => h) ⟨Or.inl ⟨by rfl, (by intro w'; go_simp)⟩, fun _ => rfl⟩ ?_
              simp only [Act.put, List.getElem_toArray, List.getElem_cons_zero, List.getElem_cons_succ, List.setIfInBounds_toArray, List.set_cons_zero, List.set_cons_succ]
              refine wpAnyIn_done (by kernel_rfl) ?_ _
              obtain ⟨_, hJ3, hk3⟩ | ⟨h, _⟩ := hO.out
              · clear hO
                have hJ' : Hid (J (firsts n (q + 1)) W3) := hid_of (by rw [firsts_succ n q hlt]; exact hJ3)
                have hK' : Hid (KpU U W W3) := hid_of (hK.out.trans (fun p u hp hc => hk3 p u hp hc))
                clear hJ3 hk3
                gi_wp2
                go_roundw
                case rel => exact ⟨q + 1, z + 1, by omega, hid_of (by have := hz.out; omega), by go_num, hJ', hK'⟩
                case measure => simp [intOf]; omega
              · cases h
          exact AllReadyIn.nil
        exact AllReadyIn.nil
      refine AllReadyIn.cons rfl (fun Kr hKr => ?_) ?_
      · rw [if_pos (by rfl)]
        go_simp
        refine hKr _ _ ?_
        clear hKr Kr
        refine wpAnyIn_ready (rs := [4]) (by kernel_rfl) (by simp) ?_
        refine AllReadyIn.cons rfl (fun Kr hKr => ?_) ?_
        · rw [if_pos (by rfl)]
          go_simp
          refine hKr _ _ ?_
          clear hKr Kr
          refine wpAnyIn_ready (rs := [9]) (by kernel_rfl) (by simp) ?_
          refine AllReadyIn.cons rfl (fun Kr hKr => ?_) ?_
          · rw [if_pos (by rfl)]
            go_simp
            refine hR.mono ?_
            clear hR hy
            intro e W3 hout
            obtain ⟨b, rfl, hO⟩ := yo_of hout
            clear hout e0 e1 e2 e3 e4 e5 hg x0 x1 t0
            replace hO := hid_of hO
            simp only
            refine hKr _ _ ?_
            clear hKr Kr
            cases b
            · refine wpAnyIn_take (i := 10) (v := .bool true) hro rfl (by kernel_rfl) (by kernel_rfl) (by kernel_rfl) (fun _ _ _ h => h) ⟨Or.inl ⟨by rfl, (by intro w'; go_simp)⟩, fun _ => rfl⟩ ?_
              simp only [Act.put, List.getElem_toArray, List.getElem_cons_zero, List.getElem_cons_succ, List.setIfInBounds_toArray, List.set_cons_zero, List.set_cons_succ]
              refine wpAnyIn_done (by kernel_rfl) ?_ _
              obtain ⟨h, _⟩ | ⟨_, hJx3⟩ := hO.out
              · cases h
              clear hO
              gi_wp2
              refine bodyPost_ret (results_none rfl _ _ _) rfl ?_
              first | exact ⟨⟨_, rfl⟩, .inr ⟨_, trivial, hJx3⟩⟩ | exact ⟨⟨_, rfl⟩, .inr ⟨_, hJx3⟩⟩
            · refine wpAnyIn_take (i := 10) (v := .bool false) hro rfl (by kernel_rfl) (by kernel_rfl) (by kernel_rfl) (fun _ _ _ h => h) ⟨Or.inl ⟨by rfl, (by intro w'; go_simp)⟩, fun _ => rfl⟩ ?_
              simp only [Act.put, List.getElem_toArray, List.getElem_cons_zero, List.getElem_cons_succ, List.setIfInBounds_toArray, List.set_cons_zero, List.set_cons_succ]
              refine wpAnyIn_done (by kernel_rfl) ?_ _
              obtain ⟨_, hJ3, hk3⟩ | ⟨h, _⟩ := hO.out
              · clear hO
                have hJ' : Hid (J (firsts n (q + 1)) W3) := hid_of (by rw [firsts_succ n q hlt]; exact hJ3)
                have hK' : Hid (KpU U W W3) := hid_of (hK.out.trans (fun p u hp hc => hk3 p u hp hc))
                clear hJ3 hk3
                gi_wp2
                go_roundw
                case rel => exact ⟨q + 1, z + 1, by omega, hid_of (by have := hz.out; omega), by go_num, hJ', hK'⟩
                case measure => simp [intOf]; omega
              · cases h
          exact AllReadyIn.nil
        exact AllReadyIn.nil
      exact AllReadyIn.nil
    · have hqn : q = n := by omega
      have hzt : z = t := by have h1 := hz.out; have h2 := n4.out; omega
      subst hqn
      subst hzt
      have hd : decide ((z : Int) < (z : Int)) = false := by simp
      gi_wp2
      go_end0
      exact ⟨⟨_, rfl⟩, .inl ⟨_, firsts_all _, hJ1.out⟩⟩
end Go.Proofs.YtdghkmgkmfnjjaaGreatDoor
