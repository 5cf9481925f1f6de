import Derived.Test.YthebilggokpciaaH3
/-! What Looks leans on: large, values, number. -/
namespace Go.Proofs.Ythebilggokpciaa
open Go Go.RowKit
/-- What large tells. -/
def LargeOk (z : Bool) (t : Tr) : Prop := z = false → partsT t ≤ 5000
set_option maxHeartbeats 2000000 in
set_option maxRecDepth 100000 in
theorem large_t (t : Tr) (k x : Int) (s : ByteArray) (an : Option Addr) (ln cn : Nat) (ai : Option Addr) (li ci : Nat) (b c : Nat) (w : World) (hV : Hid (VRep w t (five k x s (.slice an ln cn) (.slice ai li ci)))) (hS : Hid (SmallT t)) (hC : CellsAt w b 0 (five k x s (.slice an ln cn) (.slice ai li ci))) :
    Calls Try.prog 6 #[.slice (some ⟨b, 0, none⟩) 1 c] w fun e w' => (∃ z, e = .returned (.bool z) ∧ LargeOk z t) ∧ Below w.heap.size w w' := by
  have g0 := hC 0 _ rfl
  have g1 := hC 1 _ rfl
  have g2 := hC 2 _ rfl
  have g3 := hC 3 _ rfl
  have g4 := hC 4 _ rfl
  simp only [Nat.zero_add, Nat.add_zero] at g0 g1 g2 g3 g4
  clear hC
  go_enter Try.func6, Try.ntmps6
  go_wp2_with fail
  go_loopw [3, 4] (fun n i wr => ∃ (z : Int) (q : Nat), q ≤ 1 ∧ n = .int .i64 z ∧ i = .int .i64 q ∧ Below w.heap.size w wr ∧ Hid (q = 0 → z = 0) ∧ Hid (q = 1 → PartsOk 5000 z (partsT t))) (fun _ i _ => 1 - (intOf i).toNat)
  case atStart => exact ⟨0, 0, by omega, rfl, rfl, Below.refl _ w, fun _ => rfl, fun h => by omega⟩
  case round =>
    obtain ⟨z, q, hq, rfl, rfl, hbel, h0, h1⟩ := hrel
    by_cases hlt : q = 0
    · subst hlt
      obtain rfl : z = 0 := h0.out rfl
      have hcall := hid_f (parts_exact t (five k x s (.slice an ln cn) (.slice ai li ci)) 5000 wr (VRep.keep hbel _ _ hV.out) hS.out (by omega) (by omega))
      replace g0 := stay hbel g0
      replace g1 := stay hbel g1
      replace g2 := stay hbel g2
      replace g3 := stay hbel g3
      replace g4 := stay hbel g4
      go_wp2_with fail
      go_fit hcall.out
      rintro e w1 ⟨⟨z', rfl, hp⟩, hb1⟩
      obtain ⟨hp1, hp2, -, -⟩ := id hp
      have hw3 : IntKind.i64.wrap z' = z' := wrap_in _ (by omega) (by omega)
      replace hp := hid_f hp
      clear g0 g1 g2 g3 g4 hcall h0 h1
      have hbel1 : Below w.heap.size w w1 := hbel.trans (hb1.mono hbel.size)
      go_wp2_with fail
      go_roundw
      case rel => exact ⟨z', 1, by omega, by simp, by simp, hbel1, fun h => by omega, fun _ => hp.out⟩
      case measure => simp [intOf]
    · obtain rfl : q = 1 := by omega
      have hp := h1.out rfl
      obtain ⟨hp1, hp2, hp3, hp4⟩ := hp
      by_cases hz : 5000 < z
      · have hd : decide ((5000 : Int) < z) = true := by simpa using hz
        clear g0 g1 g2 g3 g4 h0 h1
        go_wp2_with fail
        go_ret
        exact ⟨⟨true, rfl, fun h => by cases h⟩, hbel⟩
      · have hd : decide ((5000 : Int) < z) = false := by simpa using hz
        have hfin : Hid (partsT t ≤ 5000) := hid_f (by have := hp3 (by omega); omega)
        clear g0 g1 g2 g3 g4 h0 h1 hp3 hp4
        go_wp2_with fail
        go_ret
        exact ⟨.inl ⟨rfl, fun _ => hfin.out⟩, hbel⟩
set_option maxHeartbeats 1000000 in
theorem equal_law (t : Tr) (k x : Int) (s : ByteArray) (an : Option Addr) (ln cn : Nat) (ai : Option Addr) (li ci : Nat) (k' x' : Int) (s' : ByteArray) (an' : Option Addr) (ln' cn' : Nat) (ai' : Option Addr) (li' ci' : Nat) (w : World) (hV : VRep w t (five k x s (.slice an ln cn) (.slice ai li ci))) (hV' : VRep w t (five k' x' s' (.slice an' ln' cn') (.slice ai' li' ci'))) :
    Calls Try.prog 14 #[.agg #[.int .i64 k, .int .i64 x, .string s, .slice an ln cn, .slice ai li ci], .agg #[.int .i64 k', .int .i64 x', .string s', .slice an' ln' cn', .slice ai' li' ci']] w fun e w' => e = .returned (.bool true) ∧ Below w.heap.size w w' := by
  have hq := fun o p => hid_f (equal_same t (five k x s (.slice an ln cn) (.slice ai li ci)) (five k' x' s' (.slice an' ln' cn') (.slice ai' li' ci')) ((w.alloc o).alloc p) (VRep.keep (below_two w o p) _ _ hV) (VRep.keep (below_two w o p) _ _ hV'))
  clear hV hV'
  go_enter Try.func14, Try.ntmps14
  go_wp2_with fail
  go_fit (hq _ _).out
  rintro e w1 ⟨rfl, hb⟩
  go_wp2_with fail
  go_ret
  exact ⟨rfl, (below_two w _ _).trans (hb.mono (by simp only [World.size_alloc]; omega))⟩
/-- A list of values, in memory. -/
def ListAt (w : World) (v : Value) (ts : List Tr) : Prop := ∃ a c, v = .slice a ts.length c ∧ (ts = [] ∨ ∃ b o, a = some ⟨b, o, none⟩ ∧ b < w.heap.size ∧ VRepL w b o ts)
set_option maxHeartbeats 1000000 in
set_option maxRecDepth 100000 in
theorem number_lit (x : Int) (w : World) : Calls Try.prog 25 #[.int .i64 x] w fun e w' => e = .returned (.agg #[.int .i64 3, .int .i64 x, .string ⟨#[]⟩, .slice none 0 0, .slice none 0 0]) ∧ w' = w.alloc (.cells #[.int .i64 3, .int .i64 x, .string ⟨#[]⟩, .slice none 0 0, .slice none 0 0] 25) := by
  go_enter Try.func25, Try.ntmps25
  go_wp2_with fail
  refine bodyPost_ret (v := .agg #[.int .i64 3, .int .i64 x, .string ⟨#[]⟩, .slice none 0 0, .slice none 0 0]) (by simp [results, Try.results25, go_sem]) rfl ?_
  exact ⟨rfl, rfl⟩
end Go.Proofs.Ythebilggokpciaa
