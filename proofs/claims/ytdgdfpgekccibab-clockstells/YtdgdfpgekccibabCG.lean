import Derived.Test.YtdgdfpgekccibabCF
/-! clocks: thingIn. -/
namespace Go.Proofs.Ytdgdfpgekccibab
open Go Go.RowKit
theorem mm_u : Try.prog.underlying 82 = some (.map 90 84) := by kernel_rfl
theorem mc_u : Try.prog.underlying 67 = some (.map 90 68) := by kernel_rfl
def zeros48 : Array Value := #[.int .i32 0, .int .i32 0, .int .i32 0, .int .i32 0, .int .i32 0, .int .i32 0, .int .i32 0, .int .i32 0, .int .i32 0, .int .i32 0, .int .i32 0, .int .i32 0, .int .i32 0, .int .i32 0, .int .i32 0, .int .i32 0, .int .i32 0, .int .i32 0, .int .i32 0, .int .i32 0, .int .i32 0, .int .i32 0, .int .i32 0, .int .i32 0, .int .i32 0, .int .i32 0, .int .i32 0, .int .i32 0, .int .i32 0, .int .i32 0, .int .i32 0, .int .i32 0, .int .i32 0, .int .i32 0, .int .i32 0, .int .i32 0, .int .i32 0, .int .i32 0, .int .i32 0, .int .i32 0, .int .i32 0, .int .i32 0, .int .i32 0, .int .i32 0, .int .i32 0, .int .i32 0, .int .i32 0, .int .i32 0]
def ZS : Array Value := #[.slice none 0 0]
theorem cells3 {w : World} {b : Nat} {c0 c1 c2 : Value} {t : TypeId} (h : w.heap[b]? = some (.cells #[c0, c1, c2] t (0, 0))) : w.cell? ⟨b, 0, none⟩ = some c0 ∧ w.cell? ⟨b, 1, none⟩ = some c1 ∧ w.cell? ⟨b, 2, none⟩ = some c2 := by
  refine ⟨?_, ?_, ?_⟩ <;> simp [World.cell?, h]
/-- What thingIn answers: b, where the thing's lies. -/
def TinPost (w : World) (mb n : Nat) (f : Where) (o k : Int) (z : Array Value) (t : TypeId) (e : Ending) (w' : World) : Prop :=
  ∃ b n', e = .returned (.pointer (some ⟨b, 0, none⟩)) ∧ n' ≤ n + 1 ∧ ThAt w' mb n' (updW f o k b) ∧ Fr (· = mb) w w' ∧ (f o k = some b ∨ (f o k = none ∧ w.heap.size ≤ b ∧ w'.heap[b]? = some (.cells z t (0, 0))))
set_option maxHeartbeats 1000000 in
set_option maxRecDepth 100000 in
theorem tin_marks (mb n : Nat) (f : Where) (kd o k : Int) (w : World) (hT : ThAt w mb n f) (hn : n ≤ 1048576) (ho : I64 o) (hk : I64 k) :
    Calls Try.prog 31 #[.map (some mb), .agg #[.int .i64 kd, .int .i64 o, .int .i64 k]] w (TinPost w mb n f o k zeros48 87) := by
  have hof := hid_of (fun w => of_agg (a := o) (b := k) w kd)
  have hB0 : Below w.heap.size w (w.alloc (.cells #[.int .i64 kd, .int .i64 o, .int .i64 k] 55)) := (Below.refl _ w).alloc (Nat.le_refl _) _
  have hz : ∀ w, (zeroValue 84).run Try.prog w = .ok (.pointer none) w := fun w => Try.zeroValue84 w
  have hlk := hid_of (fun W (h : ThAt W mb n f) => h.look mm_u hz ho hk)
  have hn0 := heap_alloc_new w (.cells #[.int .i64 kd, .int .i64 o, .int .i64 k] 55)
  unfold keyV at hlk
  go_enter Try.func31, Try.ntmps31
  go_wp2_with fail
  generalize w.alloc (.cells #[.int .i64 kd, .int .i64 o, .int .i64 k] 55) = W0 at hB0 hn0 ⊢
  refine (hof.out _).mono ?_
  rintro e W1 ⟨rfl, hB1⟩
  have n1 := (hB1.block w.heap.size (Array.getElem?_eq_some_iff.1 hn0).1).trans hn0
  replace hB1 := hB0.trans (hB1.mono hB0.size)
  have hT1 := hT.keep (hB1.block mb hT.lt)
  have hl := hlk.out W1 hT1
  cases hf : f o k with
  | some b =>
    rw [hf] at hl
    simp only [Option.map_some] at hl
    go_wp2_with fail
    go_ret
    refine ⟨b, n, rfl, by omega, ?_, Fr.of_below hB1, .inl hf⟩
    have : updW f o k b = f := by
      funext o' k'
      unfold updW
      split
      · next h => rw [h.1, h.2, hf]
      · rfl
    rw [this]
    exact hT1
  | none =>
    rw [hf] at hl
    simp only [Option.map_none] at hl
    obtain ⟨W2, hW2⟩ : ∃ W2, Hid (W1.alloc (.cells zeros48 87) = W2) := ⟨_, rfl⟩
    obtain ⟨hB2, z2, n2, hT2⟩ : Below w.heap.size w W2 ∧ W2.heap[W1.heap.size]? = some (.cells zeros48 87 (0, 0)) ∧ W2.heap[w.heap.size]? = some (.cells #[.int .i64 kd, .int .i64 o, .int .i64 k] 55 (0, 0)) ∧ ThAt W2 mb n f := by
      rw [← hW2.out]
      exact ⟨hB1.alloc hB1.size _, heap_alloc_new W1 _, (Below.heap_alloc W1 _ w.heap.size (Array.getElem?_eq_some_iff.1 n1).1).trans n1, hT1.keep (Below.heap_alloc W1 _ mb hT1.lt)⟩
    obtain ⟨y0, y1, y2⟩ := cells3 n2
    have hlt : Hid (w.heap.size ≤ W1.heap.size) := hB1.size
    unfold zeros48 at hW2
    replace hB2 := hid_of hB2
    replace z2 := hid_of z2
    clear hB1 hT1 hT n1 n2 hB0 hn0 hlk
    go_wp2_with (rw [hW2.out])
    clear hW2
    refine (hof.out _).mono ?_
    rintro e W3 ⟨rfl, hB3⟩
    have hT3 := hT2.keep (hB3.block mb hT2.lt)
    have z3 := (hB3.block _ (Array.getElem?_eq_some_iff.1 z2.out).1).trans z2.out
    have hB4 := hB2.out.trans (hB3.mono hB2.out.size)
    obtain ⟨W4, hrun, hT4, hg4⟩ := hT3.put mm_u hn ho hk W1.heap.size
    have z4 := (hg4.block _ (Array.getElem?_eq_some_iff.1 z3).1 (fun e => by
      have := hT2.lt
      have : mb = W1.heap.size := by cases e; rfl
      subst this
      obtain ⟨D, ⟨es, cl, hm, _⟩, _⟩ := hT3
      rw [z3] at hm
      cases hm)).trans z3
    have hF : Fr (· = mb) w W4 := (Fr.of_below hB4).grown hg4 (fun g e => .inl (by cases e; rfl))
    unfold keyV at hrun
    replace z4 := hid_of z4
    replace hT4 := hid_of hT4
    replace hF := hid_of hF
    clear hT2 hT3 z2 z3 hB2 hB3 hB4 hg4 y0 y1 y2 hl
    go_wp2_with fail
    go_ret
    exact ⟨W1.heap.size, n + 1, rfl, by omega, hT4.out, hF.out, .inr ⟨hf, hlt.out, z4.out⟩⟩
set_option maxHeartbeats 1000000 in
set_option maxRecDepth 100000 in
theorem tin_cell (mb n : Nat) (f : Where) (kd o k : Int) (w : World) (hT : ThAt w mb n f) (hn : n ≤ 1048576) (ho : I64 o) (hk : I64 k) :
    Calls Try.prog 26 #[.map (some mb), .agg #[.int .i64 kd, .int .i64 o, .int .i64 k]] w (TinPost w mb n f o k ZS 72) := by
  have hof := hid_of (fun w => of_agg (a := o) (b := k) w kd)
  have hB0 : Below w.heap.size w (w.alloc (.cells #[.int .i64 kd, .int .i64 o, .int .i64 k] 55)) := (Below.refl _ w).alloc (Nat.le_refl _) _
  have hz : ∀ w, (zeroValue 68).run Try.prog w = .ok (.pointer none) w := fun w => Try.zeroValue68 w
  have hlk := hid_of (fun W (h : ThAt W mb n f) => h.look mc_u hz ho hk)
  have hn0 := heap_alloc_new w (.cells #[.int .i64 kd, .int .i64 o, .int .i64 k] 55)
  unfold keyV at hlk
  go_enter Try.func26, Try.ntmps26
  go_wp2_with fail
  generalize w.alloc (.cells #[.int .i64 kd, .int .i64 o, .int .i64 k] 55) = W0 at hB0 hn0 ⊢
  refine (hof.out _).mono ?_
  rintro e W1 ⟨rfl, hB1⟩
  have n1 := (hB1.block w.heap.size (Array.getElem?_eq_some_iff.1 hn0).1).trans hn0
  replace hB1 := hB0.trans (hB1.mono hB0.size)
  have hT1 := hT.keep (hB1.block mb hT.lt)
  have hl := hlk.out W1 hT1
  cases hf : f o k with
  | some b =>
    rw [hf] at hl
    simp only [Option.map_some] at hl
    go_wp2_with fail
    go_ret
    refine ⟨b, n, rfl, by omega, ?_, Fr.of_below hB1, .inl hf⟩
    have : updW f o k b = f := by
      funext o' k'
      unfold updW
      split
      · next h => rw [h.1, h.2, hf]
      · rfl
    rw [this]
    exact hT1
  | none =>
    rw [hf] at hl
    simp only [Option.map_none] at hl
    obtain ⟨W2, hW2⟩ : ∃ W2, Hid (W1.alloc (.cells ZS 72) = W2) := ⟨_, rfl⟩
    obtain ⟨hB2, z2, n2, hT2⟩ : Below w.heap.size w W2 ∧ W2.heap[W1.heap.size]? = some (.cells ZS 72 (0, 0)) ∧ W2.heap[w.heap.size]? = some (.cells #[.int .i64 kd, .int .i64 o, .int .i64 k] 55 (0, 0)) ∧ ThAt W2 mb n f := by
      rw [← hW2.out]
      exact ⟨hB1.alloc hB1.size _, heap_alloc_new W1 _, (Below.heap_alloc W1 _ w.heap.size (Array.getElem?_eq_some_iff.1 n1).1).trans n1, hT1.keep (Below.heap_alloc W1 _ mb hT1.lt)⟩
    obtain ⟨y0, y1, y2⟩ := cells3 n2
    have hlt : Hid (w.heap.size ≤ W1.heap.size) := hB1.size
    unfold ZS at hW2
    replace hB2 := hid_of hB2
    replace z2 := hid_of z2
    clear hB1 hT1 hT n1 n2 hB0 hn0 hlk
    go_wp2_with (rw [hW2.out])
    clear hW2
    refine (hof.out _).mono ?_
    rintro e W3 ⟨rfl, hB3⟩
    have hT3 := hT2.keep (hB3.block mb hT2.lt)
    have z3 := (hB3.block _ (Array.getElem?_eq_some_iff.1 z2.out).1).trans z2.out
    have hB4 := hB2.out.trans (hB3.mono hB2.out.size)
    obtain ⟨W4, hrun, hT4, hg4⟩ := hT3.put mc_u hn ho hk W1.heap.size
    have z4 := (hg4.block _ (Array.getElem?_eq_some_iff.1 z3).1 (fun e => by
      have := hT2.lt
      have : mb = W1.heap.size := by cases e; rfl
      subst this
      obtain ⟨D, ⟨es, cl, hm, _⟩, _⟩ := hT3
      rw [z3] at hm
      cases hm)).trans z3
    have hF : Fr (· = mb) w W4 := (Fr.of_below hB4).grown hg4 (fun g e => .inl (by cases e; rfl))
    unfold keyV at hrun
    replace z4 := hid_of z4
    replace hT4 := hid_of hT4
    replace hF := hid_of hF
    clear hT2 hT3 z2 z3 hB2 hB3 hB4 hg4 y0 y1 y2 hl
    go_wp2_with fail
    go_ret
    exact ⟨W1.heap.size, n + 1, rfl, by omega, hT4.out, hF.out, .inr ⟨hf, hlt.out, z4.out⟩⟩
end Go.Proofs.Ytdgdfpgekccibab
