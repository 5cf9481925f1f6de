import Derived.Test.YtdgdfpgekccibabCD
import Derived.Deep.OwnRows
/-! clocks: counts, check. -/
namespace Go.Proofs.Ytdgdfpgekccibab
open Go Go.RowKit
theorem int_info : (Try.prog.info? 3).map (fun i => (i.zero, i.size, i.bytes)) = some (some (.int .i64 0), 1, 8) := by kernel_rfl
/-- A row of counts. -/
def cnt (a : Clk) : Nat → Value := fun i => .int .i64 (a i : Nat)
def cntTo (a : Clk) (k : Nat) : Nat → Value := fun i => if i < k then .int .i64 (a i : Nat) else .int .i64 0
set_option maxHeartbeats 1000000 in
theorem counts_any (a : Clk) (n : Nat) (hn : n ≤ 16) (hb : ∀ i, i < 16 → a i ≤ 1048576) (w : World) :
    Calls Try.prog 24 #[.agg (ck a).toArray, .int .i64 (n : Int)] w fun e w' => ∃ g, e = .returned (.slice (some ⟨g, 0, none⟩) n n) ∧ w.heap.size ≤ g ∧ w'.rowIs g 3 n (cnt a) ∧ Below w.heap.size w w' := by
  have hmk := fun w => run_make_row' (P := Try.prog) 39 3 (.int .i64 0) 8 Try.underlying39 int_info rfl .i64 .i64 n (by omega) (by omega) w
  obtain ⟨W2, hW2⟩ : ∃ W2, Hid ((w.alloc (.cells (ck a).toArray 49)).alloc (.cells (madeCells #[.int .i64 0] n) 3) = W2) := ⟨_, rfl⟩
  have hF : Fr (fun _ => False) w W2 := by rw [← hW2.out]; exact ((Fr.refl _ w).alloc _).alloc _
  have hG : Grid W2 w.heap.size 1 49 (fun _ => a) := grid_one (by rw [← hW2.out]; exact heap_alloc2_old w _ _)
  have hR : W2.rowIs (w.heap.size + 1) 3 n (cntTo a 0) := by
    have := World.rowIs_made (w.alloc (.cells (ck a).toArray 49)) (.int .i64 0) n 3
    rw [hW2.out, World.size_alloc] at this
    exact this.congr (fun i _ => by simp [cntTo])
  go_enter Try.func24, Try.ntmps24
  go_wp2_with (rw [hW2.out])
  clear hmk hW2
  go_loopw [11] (fun i wr => ∃ k : Nat, k ≤ n ∧ i = .int .i64 k ∧ Grid wr w.heap.size 1 49 (fun _ => a) ∧ wr.rowIs (w.heap.size + 1) 3 n (cntTo a k) ∧ Fr (fun _ => False) w wr) (fun i _ => n - (intOf i).toNat)
  case atStart => exact ⟨0, by omega, rfl, hG, hR, hF⟩
  case round =>
    clear hG hR hF
    obtain ⟨k, hk, rfl, hG, hR, hF⟩ := hrel
    by_cases hlt : k < n
    · have c1 := hG.cell (c := 0) (i := k) (by decide) (by omega)
      simp only [Nat.zero_mul, Nat.zero_add] at c1
      have c2 := hR.cell hlt
      have f2 := hR.frozen k
      have hbk := hb k (by omega)
      clear hb
      have h3 : Grid (wr.setCell ⟨w.heap.size + 1, k, none⟩ (.int .i64 (a k : Nat))) w.heap.size 1 49 (fun _ => a) := hG.keep (Below.heap_setCell _ _ _ _ (by show w.heap.size ≠ w.heap.size + 1; omega))
      have h4 := (hR.set k (.int .i64 (a k : Nat))).congr (g := cntTo a (k + 1)) (fun i _ => by
        unfold cntTo
        by_cases e : i = k
        · subst e; simp
        · rw [if_neg e]
          by_cases e2 : i < k
          · rw [if_pos e2, if_pos (by omega)]
          · rw [if_neg e2, if_neg (by omega)])
      have h5 := hF.set ⟨w.heap.size + 1, k, none⟩ (.int .i64 (a k : Nat)) (.inr (by show w.heap.size ≤ w.heap.size + 1; omega))
      replace h3 := hid_of h3
      replace h4 := hid_of h4
      replace h5 := hid_of h5
      clear hG hR hF
      go_wp2_with fail
      go_roundw
      case rel => exact ⟨k + 1, by omega, by go_num, h3.out, h4.out, h5.out⟩
      case measure => simp [intOf]; omega
    · obtain rfl : k = n := by omega
      go_wp2_with fail
      go_ret
      exact ⟨_, rfl, by omega, hR.congr (fun i hi => by simp [cntTo, cnt, hi]), hF.below (Nat.le_refl _) (fun _ h => h.elim)⟩
theorem ret_int {k : IntKind} {a b : Int} (h : a = b) : Ending.returned (.int k a) = .returned (.int k b) := by rw [h]
/-- An event. -/
structure Ev where
  c : Int
  k : Int
  o : Int
  n : Int
deriving DecidableEq
/-- Events in memory. -/
def EvsAt (w : World) (a : Option Addr) (l : List Ev) : Prop := ∀ j e, l[j]? = some e → ∃ b o, a = some ⟨b, o, none⟩ ∧ b < w.heap.size ∧ w.cell? ⟨b, o + j * 4, none⟩ = some (.int .i64 e.c) ∧ w.cell? ⟨b, o + j * 4 + 1, none⟩ = some (.int .i64 e.k) ∧ w.cell? ⟨b, o + j * 4 + 2, none⟩ = some (.int .i64 e.o) ∧ w.cell? ⟨b, o + j * 4 + 3, none⟩ = some (.int .i64 e.n)
theorem EvsAt.keep {w w' : World} {a : Option Addr} {l : List Ev} (h : EvsAt w a l) (hb : Below w.heap.size w w') : EvsAt w' a l := fun j e he => by
  obtain ⟨b, o, h1, h2, h3, h4, h5, h6⟩ := h j e he
  exact ⟨b, o, h1, Nat.lt_of_lt_of_le h2 hb.size, stay hb h3, stay hb h4, stay hb h5, stay hb h6⟩
theorem EvsAt.fr {S : Nat → Prop} {w w' : World} {a : Option Addr} {l : List Ev} (h : EvsAt w a l) (hb : Fr S w w') (hS : ∀ p, a = some p → l ≠ [] → ¬ S p.block) : EvsAt w' a l := fun j e he => by
  obtain ⟨b, o, h1, h2, h3, h4, h5, h6⟩ := h j e he
  have hs := hS _ h1 (fun e => by subst e; simp at he)
  exact ⟨b, o, h1, Nat.lt_of_lt_of_le h2 hb.size, hb.cell h3 hs, hb.cell h4 hs, hb.cell h5 hs, hb.cell h6 hs⟩
def okEv (clients : Int) (e : Ev) : Bool := decide (0 ≤ e.c) && decide (e.c < clients) && decide (1 ≤ e.k) && decide (e.k ≤ 11)
/-- The first error of a trace. -/
def chk (l : List Ev) (clients : Int) : Int := if clients < 0 ∨ 16 < clients then 2 else if 1048576 < l.length then 1 else if l.all (okEv clients) then 0 else 110
theorem chk_no {l : List Ev} (clients : Int) (h1 : ¬ clients < 0) (h2 : ¬ 16 < clients) (h3 : ¬ 1048576 < l.length) {k : Nat} {e : Ev} (he : l[k]? = some e) (hn : okEv clients e = false) : chk l clients = 110 := by
  unfold chk
  rw [if_neg (by omega), if_neg h3, if_neg]
  intro h
  have := List.all_eq_true.1 h e (List.mem_of_getElem? he)
  rw [hn] at this
  cases this
set_option maxHeartbeats 2000000 in
theorem check_any (a : Option Addr) (cap : Nat) (l : List Ev) (clients : Int) (w : World) (hE : EvsAt w a l) (hl : l.length ≤ 9223372036854775807) :
    Calls Try.prog 19 #[.slice a l.length cap, .int .i64 clients] w fun e w' => e = .returned (.int .i64 (chk l clients)) ∧ Below w.heap.size w w' := by
  by_cases h1 : clients < 0
  · have e1 : chk l clients = 2 := by unfold chk; rw [if_pos (.inl h1)]
    rw [e1]
    go_enter Try.func19, Try.ntmps19
    go_wp2
    go_ret
    exact ⟨rfl, Below.refl _ _⟩
  by_cases h2 : 16 < clients
  · have e1 : chk l clients = 2 := by unfold chk; rw [if_pos (.inr h2)]
    rw [e1]
    go_enter Try.func19, Try.ntmps19
    go_wp2
    go_ret
    exact ⟨rfl, Below.refl _ _⟩
  by_cases h3 : 1048576 < l.length
  · have e1 : chk l clients = 1 := by unfold chk; rw [if_neg (by omega), if_pos h3]
    rw [e1]
    go_enter Try.func19, Try.ntmps19
    go_wp2
    go_ret
    exact ⟨rfl, Below.refl _ _⟩
  obtain ⟨v, hv⟩ : ∃ v, Hid (chk l clients = v) := ⟨_, rfl⟩
  rw [hv.out]
  go_enter Try.func19, Try.ntmps19
  go_wp2
  go_loopw [18] (fun i wr => ∃ k : Nat, k ≤ l.length ∧ i = .int .i64 k ∧ (∀ j e, j < k → l[j]? = some e → okEv clients e = true) ∧ Below w.heap.size w wr) (fun i _ => l.length - (intOf i).toNat)
  case atStart => exact ⟨0, by omega, rfl, fun j e hj => by omega, Below.refl _ _⟩
  case round =>
    obtain ⟨k, hk, rfl, hok, hB⟩ := hrel
    by_cases hlt : k < l.length
    · obtain ⟨ev, hev⟩ : ∃ ev, Hid (l[k]? = some ev) := ⟨l[k], List.getElem?_eq_getElem hlt⟩
      obtain ⟨b, o, rfl, hb, y0, y1, y2, y3⟩ := (hE.keep hB) k ev hev.out
      obtain ⟨c0, k0, o0, n0⟩ := ev
      simp only at y0 y1 y2 y3
      have hB2 := fun o => hB.alloc hB.size (o := o)
      replace hB2 := hid_of hB2
      replace hok := hid_of hok
      replace hE := hid_of hE
      clear hB
      by_cases d1 : c0 < 0
      · have hno := hid_of (chk_no clients (by omega) (by omega) (by omega) hev.out (by unfold okEv; simp; omega))
        go_wp2_with fail
        go_ret
        exact ⟨ret_int (by rw [← hv.out, hno.out]), hB2.out _⟩
      by_cases d2 : clients ≤ c0
      · have hno := hid_of (chk_no clients (by omega) (by omega) (by omega) hev.out (by unfold okEv; simp; omega))
        go_wp2_with fail
        go_ret
        exact ⟨ret_int (by rw [← hv.out, hno.out]), hB2.out _⟩
      by_cases d3 : k0 < 1
      · have hno := hid_of (chk_no clients (by omega) (by omega) (by omega) hev.out (by unfold okEv; simp; omega))
        go_wp2_with fail
        go_ret
        exact ⟨ret_int (by rw [← hv.out, hno.out]), hB2.out _⟩
      by_cases d4 : 11 < k0
      · have hno := hid_of (chk_no clients (by omega) (by omega) (by omega) hev.out (by unfold okEv; simp; omega))
        go_wp2_with fail
        go_ret
        exact ⟨ret_int (by rw [← hv.out, hno.out]), hB2.out _⟩
      have hyes : Hid (okEv clients ⟨c0, k0, o0, n0⟩ = true) := by unfold Hid okEv; simp; omega
      go_wp2_with fail
      go_roundw
      case rel => exact ⟨k + 1, by omega, by go_num, fun j e hj he => by
        by_cases ej : j = k
        · subst ej
          rw [hev.out] at he
          cases he
          exact hyes.out
        · exact hok.out j e (by omega) he, hB2.out _⟩
      case measure => simp [intOf]; omega
    · have e1 : chk l clients = 0 := by
        unfold chk
        rw [if_neg (by omega), if_neg (by omega), if_pos]
        rw [List.all_eq_true]
        intro e he
        obtain ⟨j, hj, rfl⟩ := List.getElem_of_mem he
        exact hok j _ (by omega) (List.getElem?_eq_getElem hj)
      replace e1 := hid_of e1
      go_wp2_with fail
      go_ret
      exact ⟨ret_int (by rw [← hv.out, e1.out]), hB⟩
end Go.Proofs.Ytdgdfpgekccibab
