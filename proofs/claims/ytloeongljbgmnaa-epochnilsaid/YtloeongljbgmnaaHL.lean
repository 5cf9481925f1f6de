import Derived.Test.YtloeongljbgmnaaHK
/-! heap: New; a nil heap. -/
namespace Go.Proofs.Ytloeongljbgmnaa
open Go Go.RowKit
theorem owns_empty (w : World) (e : TypeId) (size lo : Nat) (hlo : lo ≤ w.heap.size) : (w.alloc (.cells #[] e)).ownsRow lo e size (.slice (some ⟨w.heap.size, 0, none⟩) 0 0) 0 [] :=
  ⟨by simp, .inr ⟨w.heap.size, 0, #[], rfl, hlo, heap_alloc_new w _, Nat.le_refl _, Nat.zero_le _, by simp, by simp⟩⟩
set_option maxRecDepth 100000 in
set_option maxHeartbeats 4000000 in
theorem new_any (lo wb : Nat) (obj most : Int) (w : World) (hlo : lo ≤ w.heap.size) (hw : w.heap[wb]? = some (.cells #[.bool false] 55 (0, 0))) (h1 : 1 ≤ most) (h2 : most ≤ 1048576) :
    Calls Try.prog 51 #[.pointer (some ⟨wb, 0, none⟩), .int .i64 obj, .int .i64 most] w fun e w' => ∃ hb, e = .returned (.tuple #[.pointer (some ⟨hb, 0, none⟩), .int .i64 0]) ∧ Below w.heap.size w w' ∧ HeapS lo w' hb obj most [] [] := by
  have hn := hid_of (pnew_any wb obj 0 0 none 0 0 none w (cell_of hw rfl))
  replace hw := hid_of hw
  go_enter Try.func51, Try.ntmps51
  go_wp2_with fail
  refine hn.out.mono ?_
  rintro e W1 ⟨pb, rfl, hp1, hp2, hB1⟩
  obtain ⟨W2, hW2⟩ : ∃ W2, Hid (W1.alloc (.cells #[.pointer (some ⟨wb, 0, none⟩), .int .i64 obj, .int .i64 most, .pointer (some ⟨pb, 0, none⟩), .pointer none, .nilIface] 158) = W2) := ⟨_, rfl⟩
  have hB12 : Below W1.heap.size W1 W2 := by rw [← hW2.out]; exact (Below.refl _ W1).alloc (Nat.le_refl _) _
  have z2 := heap_alloc_new W1 (.cells #[.pointer (some ⟨wb, 0, none⟩), .int .i64 obj, .int .i64 most, .pointer (some ⟨pb, 0, none⟩), .pointer none, .nilIface] 158)
  rw [hW2.out] at z2
  obtain ⟨W3, hW3⟩ : ∃ W3, Hid (W2.alloc (.cells #[] 132) = W3) := ⟨_, rfl⟩
  have hB23 : Below W2.heap.size W2 W3 := by rw [← hW3.out]; exact (Below.refl _ W2).alloc (Nat.le_refl _) _
  have hrow := owns_empty W2 132 1 lo (Nat.le_trans hlo (Nat.le_trans hB1.size hB12.size))
  rw [hW3.out] at hrow
  obtain ⟨W4, hW4⟩ : ∃ W4, Hid (W3.alloc (.cells #[.slice (some ⟨W2.heap.size, 0, none⟩) 0 0] 168) = W4) := ⟨_, rfl⟩
  have hB34 : Below W3.heap.size W3 W4 := by rw [← hW4.out]; exact (Below.refl _ W3).alloc (Nat.le_refl _) _
  have z4 := heap_alloc_new W3 (.cells #[.slice (some ⟨W2.heap.size, 0, none⟩) 0 0] 168)
  rw [hW4.out] at z4
  have hB24 : Below W2.heap.size W2 W4 := hB23.trans (hB34.mono hB23.size)
  have hB14 : Below W1.heap.size W1 W4 := hB12.trans (hB24.mono hB12.size)
  have hB04 : Below w.heap.size w W4 := hB1.trans (hB14.mono hB1.size)
  have y2 := (hB24.block _ (Array.getElem?_eq_some_iff.1 z2).1).trans z2
  have hst := hid_of (astore_any W1.heap.size W3.heap.size _ _ W4 (cell_of (k := 4) y2 rfl) (warm y2) (cell_of (k := 0) z4 rfl))
  obtain ⟨W5, hW5⟩ : ∃ W5, Hid (W4.setCell ⟨W1.heap.size, 4, none⟩ (.pointer (some ⟨W3.heap.size, 0, none⟩)) = W5) := ⟨_, rfl⟩
  rw [hW5.out] at hst
  have hF : Fr (· = W1.heap.size) W4 W5 := by rw [← hW5.out]; exact (Fr.refl _ W4).set _ _ (.inl rfl)
  have hlt1 := (Array.getElem?_eq_some_iff.1 hp2).1
  have hltw := (Array.getElem?_eq_some_iff.1 hw.out).1
  have hs1 := hB1.size
  have hs2 := hB12.size
  have hz2 := (Array.getElem?_eq_some_iff.1 z2).1
  have hs3 := hB23.size
  have kp : ∀ {b : Nat} {o : Obj}, W4.heap[b]? = some o → b ≠ W1.heap.size → W5.heap[b]? = some o := fun {b o} e hne => (hF.block b (Array.getElem?_eq_some_iff.1 e).1 hne).trans e
  have n1 : wb ≠ W1.heap.size := by omega
  have n2 : pb ≠ W1.heap.size := by omega
  have n3 : W3.heap.size ≠ W1.heap.size := by omega
  have hfin : Hid (Below w.heap.size w W5 ∧ HeapS lo W5 W1.heap.size obj most [] []) := by
    refine ⟨hB04.trans (hF.below (Nat.le_trans hs1 (Nat.le_trans hs2 (Nat.le_trans hs3 hB34.size))) (fun i hi => by omega)), [], [], ⟨wb, pb, W3.heap.size, 0, none, none, .slice (some ⟨W2.heap.size, 0, none⟩) 0 0, .nilIface, fun _ => 0⟩, rfl, ⟨?_, kp ((hB04.block _ hltw).trans hw.out) n1, kp ((hB14.block _ hlt1).trans hp2) n2, ⟨rfl, ⟨by simp, fun h => absurd rfl h⟩, rfl⟩, kp z4 n3, ?_, fun i x hx => by simp at hx, fun i j hi => by simp at hi, by omega, by show lo ≤ pb; omega, fun i hi => by simp at hi⟩, rfl⟩
    · rw [← hW5.out]
      exact heap_setCell_same W4 W1.heap.size 4 _ _ _ y2
    · refine ownsRow_keep (ownsRow_keep hrow (fun g cs' e => hB34.block g (Array.getElem?_eq_some_iff.1 e).1)) (fun g cs' e => hF.block g (Array.getElem?_eq_some_iff.1 e).1 (fun eg => ?_))
      rw [eg] at e
      rw [y2] at e
      cases e
  clear hn hp1 hp2 hB1 hB12 z2 hB23 hrow hB34 z4 hB24 hB14 hB04 y2 hF hlt1 hltw hs1 hs2 hz2 hs3 kp hw hW5
  go_wp2_with (first | rw [hW2.out] | rw [hW3.out] | rw [hW4.out])
  refine hst.out.mono ?_
  rintro e Z ⟨rfl, hz⟩
  obtain rfl : W5 = Z := hz.symm
  clear hst hz hW2 hW3 hW4
  go_wp2_with fail
  go_ret2
  exact ⟨W1.heap.size, rfl, hfin.out⟩
set_option maxRecDepth 100000 in
theorem num_any (n : Int) (w : World) : Calls Try.prog 14 #[.int .i64 n] w fun e w' => e = .returned (.int .i64 n) ∧ w' = w := by
  go_enter Try.func14, Try.ntmps14
  go_wp2
  go_ret
  exact ⟨rfl, rfl⟩
end Go.Proofs.Ytloeongljbgmnaa
