import Derived.Test.YthgnkhpomhcdkaaGreatDoorMA1
/-! update: what a value is asked; makers of closures. -/
namespace Go.Proofs.YthgnkhpomhcdkaaGreatDoor
open Go Go.RowKit

/-- A value by its five cells. -/
structure V5 where
  k : Int
  x : Int
  s : ByteArray
  an : Option Addr
  ln : Nat
  cn : Nat
  ai : Option Addr
  li : Nat
  ci : Nat
def V5.v (u : V5) : Value := .agg #[.int .i64 u.k, .int .i64 u.x, .string u.s, .slice u.an u.ln u.cn, .slice u.ai u.li u.ci]
def V5.cs (u : V5) : List Value := five u.k u.x u.s (.slice u.an u.ln u.cn) (.slice u.ai u.li u.ci)
def V5.obj (u : V5) (t : TypeId) : Obj := .cells #[.int .i64 u.k, .int .i64 u.x, .string u.s, .slice u.an u.ln u.cn, .slice u.ai u.li u.ci] t
section
variable (u : V5) (w : World)
theorem isAnything_any : Calls Tryz.prog 33 #[u.v] w fun e w' => e = .returned (.bool true) ∧ Below w.heap.size w w' := by
  unfold V5.v
  go_enter Tryz.func33, Tryz.ntmps33
  go_wp2_with fail
  go_ret
  exact ⟨rfl, (Below.refl _ w).alloc (Nat.le_refl _) _⟩
theorem isInt_any : Calls Tryz.prog 38 #[u.v] w fun e w' => e = .returned (.bool (u.k == 3)) ∧ Below w.heap.size w w' := by
  unfold V5.v
  go_enter Tryz.func38, Tryz.ntmps38
  go_wp2_with fail
  go_ret
  exact ⟨rfl, (Below.refl _ w).alloc (Nat.le_refl _) _⟩
theorem isText_any : Calls Tryz.prog 44 #[u.v] w fun e w' => e = .returned (.bool (u.k == 4)) ∧ Below w.heap.size w w' := by
  unfold V5.v
  go_enter Tryz.func44, Tryz.ntmps44
  go_wp2_with fail
  go_ret
  exact ⟨rfl, (Below.refl _ w).alloc (Nat.le_refl _) _⟩
theorem isList_any : Calls Tryz.prog 53 #[u.v] w fun e w' => e = .returned (.bool (u.k == 5)) ∧ Below w.heap.size w w' := by
  unfold V5.v
  go_enter Tryz.func53, Tryz.ntmps53
  go_wp2_with fail
  go_ret
  exact ⟨rfl, (Below.refl _ w).alloc (Nat.le_refl _) _⟩
set_option maxHeartbeats 1000000 in
theorem hasMembers_any : Calls Tryz.prog 104 #[u.v] w fun e w' => e = .returned (.bool (u.k == 6 && decide ((u.ln : Int) > 0))) ∧ Below w.heap.size w w' := by
  unfold V5.v
  go_enter Tryz.func104, Tryz.ntmps104
  cases hk : (u.k == 6)
  · go_wp2_with fail
    go_ret
    exact ⟨by simp, (Below.refl _ w).alloc (Nat.le_refl _) _⟩
  · go_wp2_with fail
    go_ret
    exact ⟨by simp, (Below.refl _ w).alloc (Nat.le_refl _) _⟩
end
/-- A closure of one box. -/
abbrev fn0 (n : Nat) : Value := .func (.func n) #[] #[]
abbrev fn1 (n b : Nat) : Value := .func (.func n) #[] #[.pointer (some ⟨b, 0, none⟩)]
theorem atPlaces_any (n : Nat) (caps : Array Value) (w : World) : Calls Tryz.prog 34 #[.func (.func n) #[] caps] w fun e w' => e = .returned (.func (.func 70) #[] #[.pointer (some ⟨w.heap.size, 0, none⟩)]) ∧ w' = w.alloc (.cells #[.func (.func n) #[] caps] 87) := by
  go_enter Tryz.func34, Tryz.ntmps34
  go_wp2_with fail
  go_ret
  exact ⟨rfl, rfl⟩
theorem setIf_any (n : Nat) (w : World) : Calls Tryz.prog 41 #[.func (.func n) #[] #[]] w fun e w' => e = .returned (.func (.func 80) #[] #[.pointer (some ⟨w.heap.size, 0, none⟩)]) ∧ w' = w.alloc (.cells #[.func (.func n) #[] #[]] 91) := by
  go_enter Tryz.func41, Tryz.ntmps41
  go_wp2_with fail
  go_ret
  exact ⟨rfl, rfl⟩
end Go.Proofs.YthgnkhpomhcdkaaGreatDoor
