import Derived.Test.YthijpmomcompaaaDoorC2
import Derived.Test.YthijpmomcompaaaDoorL6
import Derived.Test.YthijpmomcompaaaDoorN1
/-! Lists of Values: many, same. -/
namespace Go.Proofs.YthijpmomcompaaaDoor
open Go Go.RowKit

theorem small_below : (t : Tr) → SmallT t → Below1 t := by
  intro t
  refine Tr.rec (motive_1 := fun t => SmallT t → Below1 t) (motive_2 := fun l => SmallL l → Below1L l) ?_ ?_ ?_ t
  · intro k x s ns its ih h
    unfold SmallT at h
    unfold Below1
    exact ⟨by omega, ih h.2.2.2.2⟩
  · intro _; unfold Below1L; trivial
  · intro t ts h1 h2 h
    unfold SmallL at h
    unfold Below1L
    exact ⟨h1 h.1, h2 h.2⟩
/-- A list of Values in memory. -/
def ListAt (w : World) (a : Option Addr) (c : Nat) (its : List Tr) : Prop := (its.length ≤ c ∧ c ≤ 9223372036854775807) ∧ (its = [] ∨ ∃ b o, a = some ⟨b, o, none⟩ ∧ b < w.heap.size ∧ VRepL w b o its)
def nodeL (its : List Tr) : Tr := .node 0 0 ⟨#[]⟩ [] its
theorem ListAt.rep {w : World} {a : Option Addr} {c : Nat} {its : List Tr} (h : ListAt w a c its) : VRep w (nodeL its) (five 0 0 ⟨#[]⟩ (.slice none 0 0) (.slice a its.length c)) := by
  unfold nodeL VRep
  exact ⟨_, a, c, rfl, ⟨none, 0, rfl, ⟨Nat.le_refl _, by omega⟩, .inl rfl⟩, h.1, h.2⟩
theorem ListAt.keep {w w' : World} {a : Option Addr} {c : Nat} {its : List Tr} (h : ListAt w a c its) (hb : Below w.heap.size w w') : ListAt w' a c its := by
  refine ⟨h.1, ?_⟩
  rcases h.2 with e | ⟨b, o, e, hl, hv⟩
  · exact .inl e
  · exact .inr ⟨b, o, e, Nat.lt_of_lt_of_le hl hb.size, VRepL.keep hb hl o its hv⟩
theorem small_node {its : List Tr} (h : SmallL its) (hl : its.length * 80 ≤ 140737488351232) : SmallT (nodeL its) := by
  unfold nodeL SmallT
  exact ⟨Nat.zero_le _, Nat.zero_le _, (fun s hs => by cases hs), hl, h⟩
set_option maxHeartbeats 1000000 in
set_option maxRecDepth 100000 in
theorem many_any (a : Option Addr) (c n : Nat) (its : List Tr) (w : World) (hn : its.length = n) (hV : ListAt w a c its) :
    Calls Tryd.prog 4 #[.slice a n c] w fun e w' => (∃ z, e = .returned (.bool z)) ∧ Below w.heap.size w w' := by
  subst hn
  have hcall := hid_e (parts_any (nodeL its) (five 0 0 ⟨#[]⟩ (.slice none 0 0) (.slice a its.length c)) 10000 w hV.rep)
  clear hV
  go_enter Tryd.func4, Tryd.ntmps4
  go_wp2_with fail
  refine hcall.out.mono ?_
  rintro e w1 ⟨⟨m, rfl⟩, hb1⟩
  replace hb1 := hid_e hb1
  go_wp2_with fail
  go_ret
  exact ⟨⟨_, rfl⟩, hb1.out⟩
set_option maxHeartbeats 1000000 in
set_option maxRecDepth 100000 in
theorem same_any (a a' : Option Addr) (c c' n n' : Nat) (its its' : List Tr) (w : World) (hn : its.length = n) (hn' : its'.length = n') (hV : ListAt w a c its) (hV' : ListAt w a' c' its') (hS : SmallT (nodeL its)) :
    Calls Tryd.prog 12 #[.slice a n c, .slice a' n' c'] w fun e w' => e = .returned (.bool (eqT (nodeL its) (nodeL its'))) ∧ Below w.heap.size w w' := by
  subst hn; subst hn'
  have hcall := hid_e (equal_any (nodeL its) (nodeL its') (five 0 0 ⟨#[]⟩ (.slice none 0 0) (.slice a its.length c)) (five 0 0 ⟨#[]⟩ (.slice none 0 0) (.slice a' its'.length c')) w hV.rep hV'.rep hS)
  clear hV hV'
  go_enter Tryd.func12, Tryd.ntmps12
  go_wp2_with fail
  refine hcall.out.mono ?_
  rintro e w1 ⟨rfl, hb1⟩
  replace hb1 := hid_e hb1
  go_wp2_with fail
  go_ret
  exact ⟨rfl, hb1.out⟩
end Go.Proofs.YthijpmomcompaaaDoor
