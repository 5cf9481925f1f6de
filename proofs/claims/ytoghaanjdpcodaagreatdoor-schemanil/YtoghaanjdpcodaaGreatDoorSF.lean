import Derived.Test.YtoghaanjdpcodaaGreatDoorSE
import Derived.Test.YtoghaanjdpcodaaGreatDoorZB3
/-! schema: names with their numbers, in a map; the maker of required. -/
namespace Go.Proofs.YtoghaanjdpcodaaGreatDoor
open Go Go.RowKit

/-- Names with their numbers. -/
def numsD (l : List ByteArray) : DataW Unit := (l.foldl (fun (p : DataW Unit × Nat) s => (p.1.put (keyL s) (.lit (.int .i64 (p.2 : Int))), p.2 + 1)) (.map [], 0)).1
theorem numsD_two (l : List ByteArray) : (l.foldl (fun (p : DataW Unit × Nat) s => (p.1.put (keyL s) (.lit (.int .i64 (p.2 : Int))), p.2 + 1)) (.map [], 0)).2 = l.length := by
  have : ∀ (l : List ByteArray) (D : DataW Unit) (n : Nat), (l.foldl (fun (p : DataW Unit × Nat) s => (p.1.put (keyL s) (.lit (.int .i64 (p.2 : Int))), p.2 + 1)) (D, n)).2 = n + l.length := by
    intro l
    induction l with
    | nil => intro D n; rfl
    | cons a l ih => intro D n; rw [List.foldl_cons, ih]; simp; omega
  rw [this]; omega
theorem numsD_snoc (l : List ByteArray) (s : ByteArray) : numsD (l ++ [s]) = (numsD l).put (keyL s) (.lit (.int .i64 (l.length : Int))) := by
  unfold numsD
  rw [List.foldl_append, List.foldl_cons, List.foldl_nil, numsD_two]
/-- A map of numbers by names. -/
def NumsAt (w : World) (m n : Nat) (D : DataW Unit) : Prop := w.ownsMap Tryz.prog 9 (plainElem Tryz.prog 3) m n D
theorem NumsAt.keep {w w' : World} {m n : Nat} {D : DataW Unit} (h : NumsAt w m n D) (hb : w'.heap[m]? = w.heap[m]?) : NumsAt w' m n D := by
  obtain ⟨es, cl, hm, r⟩ := h
  exact ⟨es, cl, hb.trans hm, r⟩
theorem NumsAt.lt {w : World} {m n : Nat} {D : DataW Unit} (h : NumsAt w m n D) : m < w.heap.size := World.ownsMap.lt h
theorem int_elem (z : Int) (hz : (Lit.int .i64 z).wf = true) : plainElem (H := Unit) Tryz.prog 3 (.int .i64 z) = some (.lit (.int .i64 z), []) := plainElem_int Tryz.underlying3 hz
theorem wf_nat (q : Nat) (h : q ≤ 9000000000000000000) : (Lit.int .i64 (q : Int)).wf = true := by
  have e1 : IntKind.i64.min = -9223372036854775808 := by decide
  have e2 : IntKind.i64.max = 9223372036854775807 := by decide
  simp only [Lit.wf, e1, e2, Bool.and_eq_true, decide_eq_true_eq]
  omega
set_option maxHeartbeats 2000000 in
set_option maxRecDepth 100000 in
theorem numbered_any (an : Option Addr) (cn : Nat) (ns : List ByteArray) (w : World) (hN : Hid (Reads w (.slice an ns.length cn) ns)) (hz : Hid (∀ n ∈ ns, n.size ≤ 140737488351232)) (hl : ns.length ≤ 8796093021952) :
    Calls Tryz.prog 44 #[.slice an ns.length cn] w fun e w' => ∃ m, e = .returned (.map (some m)) ∧ w.heap.size ≤ m ∧ NumsAt w' m ns.length (numsD ns) ∧ Below w.heap.size w w' := by
  have hmm := @run_makeMap Tryz.prog
  have hM0 : NumsAt (w.alloc (.map #[] 0)) w.heap.size 0 (numsD []) := World.ownsMap_made w _ _ _
  have hB0 := hid_of ((Below.refl _ w).alloc (Nat.le_refl _) (.map #[] 0))
  replace hM0 := hid_of hM0
  obtain ⟨mb, hmb⟩ : ∃ b, Hid (w.heap.size = b) := ⟨_, hid_of rfl⟩
  go_enter Tryz.func44, Tryz.ntmps44
  go_wp2_with fail
  rw [hmb.out] at hM0 hB0 ⊢
  generalize hX : w.alloc (.map #[] 0) = X at hM0 hB0 ⊢
  clear hX hmm
  go_loopw [9] (fun i wr => ∃ q : Nat, q ≤ ns.length ∧ i = .int .i64 q ∧ Hid (NumsAt wr mb q (numsD (ns.take q))) ∧ Hid (Below mb w wr)) (fun i _ => ns.length - (intOf i).toNat)
  case atStart => exact ⟨0, Nat.zero_le _, rfl, hM0, hB0⟩
  case round =>
    obtain ⟨q, hq, rfl, hM, hB⟩ := hrel
    by_cases hlt : q < ns.length
    · obtain ⟨s, hs⟩ : ∃ s, Hid (ns[q]? = some s) := ⟨_, hid_e (List.getElem?_eq_getElem hlt)⟩
      obtain ⟨a, c, e, hc, h0⟩ := hN.out
      obtain ⟨b, o, e2, hb, hA⟩ := h0.resolve_left (by intro e; subst e; simp at hlt)
      simp only [Value.slice.injEq] at e
      obtain ⟨rfl, -, rfl⟩ := e
      subst e2
      have t0 : wr.cell? ⟨b, o + q, none⟩ = some (.string s) := ((hB.out.cell (p := ⟨b, o + q, none⟩) (by rw [← hmb.out]; exact hb)).trans (hA q s hs.out))
      have hkey := key_big s (hz.out s (List.mem_of_getElem? hs.out))
      have hval := int_elem (q : Int) (wf_nat q (by omega))
      have hown := hM.out
      unfold NumsAt at hown
      have hq2 : q < maxLen := by unfold maxLen; omega
      have hi : (q : Int) < (ns.length : Int) := by omega
      have hcn : ns.length ≤ cn := hc.1
      clear hA h0 hc
      go_wp2_with (at_mapUpdate; refine wpList_mapUpdate_own _ rfl _ _ _ 84 rfl 9 3 law9 Tryz.underlying84 (plainElem Tryz.prog 3) mb q _ rfl hown hq2 _ _ _ rfl rfl hkey _ [] hval ?_; intro w1 hown1 hgrow1)
      go_roundw
      case rel =>
        refine ⟨q + 1, by omega, by go_num, hid_of ?_, hid_of ?_⟩
        · rw [List.take_add_one, hs.out]
          show NumsAt w1 mb (q + 1) (numsD (ns.take q ++ [s]))
          rw [numsD_snoc, List.length_take, Nat.min_eq_left hq]
          exact hown1
        · exact grown_below hgrow1 (by have := hB.out.size; have := hmb.out; omega) (fun g e => by cases e; exact Nat.le_refl _) |> fun h => hB.out.trans h
      case measure => simp [intOf]; omega
    · have e : q = ns.length := by omega
      have hi : ¬ (q : Int) < (ns.length : Int) := by omega
      clear hlt
      go_wp2_with fail
      go_ret
      refine ⟨mb, rfl, Nat.le_of_eq hmb.out, ?_, hmb.out ▸ hB.out⟩
      have := hM.out
      rw [e, List.take_length] at this
      exact this
end Go.Proofs.YtoghaanjdpcodaaGreatDoor
