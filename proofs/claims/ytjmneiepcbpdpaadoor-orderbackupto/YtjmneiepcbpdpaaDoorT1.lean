import Derived.Test.YtjmneiepcbpdpaaDoorC2
import Derived.Test.YtjmneiepcbpdpaaDoorL6
/-! large; a copy, to be compared. -/
namespace Go.Proofs.YtjmneiepcbpdpaaDoor
open Go Go.RowKit

set_option maxHeartbeats 1000000 in
set_option maxRecDepth 100000 in
theorem large_one (k x : Int) (s : ByteArray) (an : Option Addr) (ln cn : Nat) (ai : Option Addr) (li ci : Nat) (t : Tr) (w : World) (hV : Hid (VRep w t (five k x s (.slice an ln cn) (.slice ai li ci)))) :
    Calls Tryd.prog 5 #[.agg #[.int .i64 k, .int .i64 x, .string s, .slice an ln cn, .slice ai li ci]] w fun e w' => (∃ z, e = .returned (.bool z)) ∧ Below w.heap.size w w' := by
  have hcall := fun o => hid_e (parts_any t (five k x s (.slice an ln cn) (.slice ai li ci)) 10000 (w.alloc o) (VRep.keep ((Below.refl _ w).alloc (Nat.le_refl _) o) _ _ hV.out))
  go_enter Tryd.func5, Tryd.ntmps5
  go_wp2_with fail
  go_fit (hcall _).out
  rintro e w1 ⟨⟨n, rfl⟩, hb1⟩
  go_wp2_with fail
  go_ret
  exact ⟨⟨_, rfl⟩, below_box hb1⟩
theorem small_below : (t : Tr) → SmallT t → Below1 t := by
  intro t
  refine Tr.rec (motive_1 := fun t => SmallT t → Below1 t) (motive_2 := fun l => SmallL l → Below1L l) ?_ ?_ ?_ t
  · intro k x s ns its ih h
    unfold SmallT at h
    unfold Below1
    exact ⟨by omega, ih h.2.2.2.2⟩
  · intro _; unfold Below1L; trivial
  · intro t ts h1 h2 h
    unfold SmallL at h
    unfold Below1L
    exact ⟨h1 h.1, h2 h.2⟩
/-- Three values that were handed in. -/
structure Three (w : World) (b1 b2 b3 : Array Value) (wx : World) : Prop where
  below : Below w.heap.size w wx
  one : wx.heap[w.heap.size]? = some (.cells b1 25 (0, 0))
  two : wx.heap[w.heap.size + 1]? = some (.cells b2 25 (0, 0))
  three : wx.heap[w.heap.size + 2]? = some (.cells b3 25 (0, 0))
theorem Three.keep {w wx wy : World} {b1 b2 b3 : Array Value} (h : Three w b1 b2 b3 wx) (hb : Below wx.heap.size wx wy) : Three w b1 b2 b3 wy :=
  ⟨h.below.trans (hb.mono h.below.size), (hb.block _ (Array.getElem?_eq_some_iff.1 h.one).1).trans h.one, (hb.block _ (Array.getElem?_eq_some_iff.1 h.two).1).trans h.two, (hb.block _ (Array.getElem?_eq_some_iff.1 h.three).1).trans h.three⟩
theorem Three.drew {w wx : World} {b1 b2 b3 : Array Value} (h : Three w b1 b2 b3 wx) : Three w b1 b2 b3 wx.drew := ⟨below_drew h.below, h.one, h.two, h.three⟩
/-- What is compared, both copied. -/
theorem compare_copies {w1 : World} {t u : Tr} {cs cs' : List Value} (h1 : VRep w1 t cs) (h2 : VRep w1 u cs') (s1 : SmallT t) (s2 : SmallT u) : Calls Tryd.prog 17 #[.agg cs.toArray, .agg cs'.toArray] w1 fun e w' => e = .returned (.int .i64 (cmpT t u)) ∧ Below w1.heap.size w1 w' :=
  compare_any t u cs cs' w1 h1 h2 (small_below t s1) (small_below u s2)
end Go.Proofs.YtjmneiepcbpdpaaDoor
