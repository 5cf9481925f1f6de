import Derived.Test.YthgnkhpomhcdkaaGreatDoorUE
import Derived.Test.YthgnkhpomhcdkaaGreatDoorMA2
/-! update: the changes of $inc and $push. -/
namespace Go.Proofs.YthgnkhpomhcdkaaGreatDoor
open Go Go.RowKit

theorem block_keep {w wx : World} {g : Nat} {o : Obj} (h : w.heap[g]? = some o) (hb : Below w.heap.size w wx) : wx.heap[g]? = some o := (hb.block _ (Array.getElem?_eq_some_iff.1 h).1).trans h
/-- The change of $inc at block b. -/
structure IncAt (w : World) (b : Nat) (u : V5) : Prop where
  box : w.heap[b]? = some (u.obj 28)
  first : w.heap[b + 1]? = some (.cells #[.int .i64 u.x] 2)
  next : w.heap[b + 2]? = some (.cells #[.func (.func 76) #[] #[.pointer (some ⟨b, 0, none⟩)]] 123)
abbrev incV (b : Nat) : Value := .func (.func 122) #[] #[.pointer (some ⟨b + 1, 0, none⟩), .pointer (some ⟨b + 2, 0, none⟩)]
theorem IncAt.keep {w w' : World} {b : Nat} {u : V5} (h : IncAt w b u) (hb : Below w.heap.size w w') : IncAt w' b u :=
  ⟨block_keep h.box hb, block_keep h.first hb, block_keep h.next hb⟩
theorem add_any (u : V5) (w : World) : Calls Tryz.prog 39 #[u.v] w fun e w' => e = .returned (incV w.heap.size) ∧ Below w.heap.size w w' ∧ IncAt w' w.heap.size u := by
  unfold V5.v
  go_enter Tryz.func39, Tryz.ntmps39
  go_wp2_with fail
  refine (reckon_any _ _ _ _).mono ?_
  rintro e w1 ⟨rfl, rfl⟩
  go_wp2_with fail
  go_ret
  refine ⟨by simp [Nat.add_assoc], ?_, ?_⟩
  · repeat refine Below.alloc ?_ (by first | omega | (simp only [size_al]; omega)) _
    exact Below.refl _ _
  · constructor
    all_goals
      repeat first
        | exact al_eq (by first | omega | (simp only [size_al] <;> omega))
        | refine al_lt (by first | omega | (simp only [size_al] <;> omega)) ?_
def eachB : ByteArray := ⟨#[36, 101, 97, 99, 104]⟩
def listT (l : List Tr) : Tr := .node 5 0 ⟨#[]⟩ [] l
abbrev listU (a : Option Addr) (n c : Nat) : V5 := ⟨5, 0, ⟨#[]⟩, none, 0, 0, a, n, c⟩
theorem vrep_list {w : World} {a : Option Addr} {c : Nat} {l : List Tr} (h : RowT w a l) (hc : l.length ≤ c ∧ c ≤ 9223372036854775807) : VRep w (listT l) (listU a l.length c).cs := by
  unfold listT VRep V5.cs
  exact ⟨_, a, c, rfl, ⟨none, 0, rfl, ⟨Nat.le_refl _, by omega⟩, .inl rfl⟩, hc, h⟩
/-- A list of one Value out of the row that it owns. -/
theorem vrep_row_one {w : World} {lo : Nat} {ao : Option Addr} {ci : Nat} {t : Tr} {u : V5} (ho : w.ownsRow lo 28 5 (.slice ao 1 ci) 1 u.cs) (hV : VRep w t u.cs) : VRep w (listT [t]) (listU ao 1 ci).cs := by
  rcases ho.2 with ⟨-, h0⟩ | ⟨g2, cap, cur, e2, hb2, hg2, hle, hmax, -⟩
  · exact absurd h0 (by decide)
  have hlt := (Array.getElem?_eq_some_iff.1 hg2).1
  simp only [Value.slice.injEq, true_and] at e2
  obtain ⟨rfl, rfl⟩ := e2
  refine vrep_list (.inr ⟨g2, 0, rfl, hlt, ?_⟩) ?_
  · unfold VRepL
    refine ⟨u.cs, fun j x hj => ?_, hV, by unfold VRepL; trivial⟩
    have hj5 : j < 5 := by
      have := (List.getElem?_eq_some_iff.1 hj).1
      simpa [V5.cs, five] using this
    rw [Nat.zero_add, ho.cellAt j (by omega)]; exact hj
  · exact ⟨hle, Nat.le_trans hmax (by decide)⟩
theorem five_cs (u : V5) : ∀ x ∈ u.cs, x.oneCell' = true := by
  intro x hx; unfold V5.cs five at hx; simp at hx; rcases hx with rfl | rfl | rfl | rfl | rfl <;> rfl
end Go.Proofs.YthgnkhpomhcdkaaGreatDoor
/-! update: the change of $push. -/
namespace Go.Proofs.YthgnkhpomhcdkaaGreatDoor
open Go Go.RowKit

set_option maxHeartbeats 1000000 in
set_option maxRecDepth 100000 in
theorem batchOf_plain (t : Tr) (u : V5) (hk : u.k ≠ 6) (w : World) (hV : VRep w t u.cs) :
    Calls Tryz.prog 88 #[u.v] w fun e w' => Below w.heap.size w w' ∧ ∃ bn bi, e = .returned (objU bn bi).v ∧ VRep w' (objT eachB (listT [t])) (objU bn bi).cs := by
  have hbg := begins_not u hk
  have HV : Hid (VRep w t u.cs) := hV
  clear hV
  unfold V5.v at *
  go_enter Tryz.func88, Tryz.ntmps88
  go_wp2_with fail
  have A0 : ((w.alloc (u.obj 28)).alloc (.cells #[.int .i64 0, .int .i64 0, .string ⟨#[]⟩, .slice none 0 0, .slice none 0 0] 28)).heap[w.heap.size]? = some (u.obj 28) := al_lt (by simp) (al_eq rfl)
  have A1 : ((w.alloc (u.obj 28)).alloc (.cells #[.int .i64 0, .int .i64 0, .string ⟨#[]⟩, .slice none 0 0, .slice none 0 0] 28)).heap[w.heap.size + 1]? = some (.cells #[.int .i64 0, .int .i64 0, .string ⟨#[]⟩, .slice none 0 0, .slice none 0 0] 28) := al_eq (by simp)
  have hB0 : Below w.heap.size w ((w.alloc (u.obj 28)).alloc (.cells #[.int .i64 0, .int .i64 0, .string ⟨#[]⟩, .slice none 0 0, .slice none 0 0] 28)) := ((Below.refl _ w).alloc (Nat.le_refl _) _).alloc (by simp) _
  refine (hbg _).mono ?_
  rintro e w1 ⟨rfl, hb⟩
  replace hb : Below ((w.alloc (u.obj 28)).alloc (.cells #[.int .i64 0, .int .i64 0, .string ⟨#[]⟩, .slice none 0 0, .slice none 0 0] 28)).heap.size ((w.alloc (u.obj 28)).alloc (.cells #[.int .i64 0, .int .i64 0, .string ⟨#[]⟩, .slice none 0 0, .slice none 0 0] 28)) w1 := hb
  have C0 := block_keep A0 hb
  have C1 := block_keep A1 hb
  have hB1 := hid_of (hB0.trans (hb.mono hB0.size))
  clear hb hB0 A0 A1
  unfold V5.obj at C0
  obtain ⟨z0, z1, z2, z3, z4, -⟩ := row_cells C0
  replace C1 := hid_of C1
  go_wp2_with fail
  refine (Tree.listed_code (some ⟨w1.heap.size, 0, none⟩) 1 1 w1.heap.size u.cs _ (World.ownsRow_lit w1 #[.int .i64 u.k, .int .i64 u.x, .string u.s, .slice u.an u.ln u.cn, .slice u.ai u.li u.ci] 1 (Nat.le_refl _) (by decide) (by rfl)) (five_cs u) (by decide)).mono ?_
  rintro e w2 ⟨ao, ci, rfl, hb2, ho⟩
  have hB2 := hid_of (hB1.out.trans ((Below.refl _ w1).alloc (Nat.le_refl _) _ |>.mono hB1.out.size) |>.trans (hb2.mono (by have := hB1.out.size; simp; omega)))
  have C2 := hid_of (block_keep (al_lt (Array.getElem?_eq_some_iff.1 C1.out).1 C1.out) hb2)
  have hl1 : w.heap.size + 1 < w1.heap.size := (Array.getElem?_eq_some_iff.1 C1.out).1
  have hlo : w1.heap.size < (w1.alloc (.cells #[.int .i64 u.k, .int .i64 u.x, .string u.s, .slice u.an u.ln u.cn, .slice u.ai u.li u.ci] 28)).heap.size := by simp
  have hlo2 := hb2.size
  generalize (w1.alloc (.cells #[.int .i64 u.k, .int .i64 u.x, .string u.s, .slice u.an u.ln u.cn, .slice u.ai u.li u.ci] 28)).heap.size = M at *
  clear z0 z1 z2 z3 z4 hb2 C0 C1
  go_wp2_with fail
  refine (uobject_any _ (listU ao 1 ci) _).mono ?_
  rintro e w3 ⟨hb3, bn, bi, rfl, hn, hi, hbn, hbi⟩
  have C3 := block_keep C2.out hb3
  have HO : Hid (w3.ownsRow M 28 5 (.slice ao 1 ci) 1 u.cs) := hid_of (ownsRow_below ho hb3)
  have HI := hid_of hi
  have HB3 := hid_of (hB2.out.trans (hb3.mono hB2.out.size))
  have hs3 := hb3.size
  have HN := hid_of hn
  clear ho hi hb3 hB2 C2 hbg hB1 hn
  obtain ⟨z0, z1, z2, z3, z4, zf⟩ := row_cells C3
  have zf0 := zf 0; have zf1 := zf 1; have zf2 := zf 2; have zf3 := zf 3; have zf4 := zf 4
  clear zf
  unfold objU V5.v
  simp only
  go_wp2_with fail
  have hr5 := put5_cells C3 (.int .i64 6) (.int .i64 0) (.string ⟨#[]⟩) (.slice (some ⟨bn, 0, none⟩) 1 1) (.slice (some ⟨bi, 0, none⟩) 1 1)
  have r0 := hr5 0; have r1 := hr5 1; have r2 := hr5 2; have r3 := hr5 3; have r4 := hr5 4
  clear hr5
  refine bodyPost_ret (v := (objU bn bi).v) (by simp [results, Tryz.results88, go_sem, r0, r1, r2, r3, r4, objU, V5.v]) rfl ?_
  have hbF : Below w.heap.size w (put5 w3 (w.heap.size + 1) (.int .i64 6) (.int .i64 0) (.string ⟨#[]⟩) (.slice (some ⟨bn, 0, none⟩) 1 1) (.slice (some ⟨bi, 0, none⟩) 1 1)) := HB3.out.trans (put5_below (by omega) _ _ _ _ _)
  have far : ∀ {k : Nat}, w.heap.size + 1 < k → (put5 w3 (w.heap.size + 1) (.int .i64 6) (.int .i64 0) (.string ⟨#[]⟩) (.slice (some ⟨bn, 0, none⟩) 1 1) (.slice (some ⟨bi, 0, none⟩) 1 1)).heap[k]? = w3.heap[k]? := fun hk => put5_far _ _ _ _ _ (by omega)
  refine ⟨hbF, bn, bi, rfl, vrep_obj ?_ ?_ (vrep_row_one (ownsRow_keep HO.out fun j hj => far (by have := (ownsRow_ge HO.out hj).1; omega)) (VRep.keep hbF _ _ HV.out))⟩
  · exact (World.cell?_of_block (w := w3) (far (by show w.heap.size + 1 < bn; omega))).trans HN.out
  · exact fun j v hj => (World.cell?_of_block (w := w3) (far (by show w.heap.size + 1 < bi; omega))).trans (HI.out j v hj)
theorem one_of {w : World} {B : Nat} {c0 : Value} {t : TypeId} (h : w.heap[B]? = some (.cells #[c0] t (0, 0))) : w.cell? ⟨B, 0, none⟩ = some c0 ∧ w.frozen? ⟨B, 0, none⟩ = false := by
  constructor
  all_goals simp [World.cell?, World.frozen?, h]
theorem put1_at {w : World} {g : Nat} {c0 : Value} {t : TypeId} (h : w.heap[g]? = some (.cells #[c0] t (0, 0))) (a0 : Value) : (w.setCell ⟨g, 0, none⟩ a0).heap[g]? = some (.cells #[a0] t (0, 0)) := by
  simp [World.setCell, Array.getElem?_modify, h]
theorem put1_far {w : World} {g : Nat} (a0 : Value) {k : Nat} (hk : k ≠ g) : (w.setCell ⟨g, 0, none⟩ a0).heap[k]? = w.heap[k]? := Below.heap_setCell _ _ _ _ hk
theorem put1_below {w : World} {g B : Nat} (h : B ≤ g) (a0 : Value) : Below B w (w.setCell ⟨g, 0, none⟩ a0) :=
  ⟨rfl, rfl, rfl, by simp [World.setCell], fun k hk => put1_far _ (by omega)⟩
/-- What enlist hands on, at block n. -/
structure EnlAt (w : World) (n : Nat) (f : Value) : Prop where
  own : w.heap[n]? = some (.cells #[f] 129)
  same : w.heap[n + 1]? = some (.cells #[f] 129)
  re : w.heap[n + 2]? = some (.cells #[.func (.func 143) #[] #[.pointer (some ⟨n + 1, 0, none⟩)]] 77)
theorem EnlAt.keep {w w' : World} {n : Nat} {f : Value} (h : EnlAt w n f) (hb : Below w.heap.size w w') : EnlAt w' n f := ⟨block_keep h.own hb, block_keep h.same hb, block_keep h.re hb⟩
abbrev enlV (n : Nat) : Value := .func (.func 138) #[] #[.pointer (some ⟨n, 0, none⟩), .pointer (some ⟨n + 2, 0, none⟩)]
set_option maxHeartbeats 1000000 in
theorem enlist_any (n : Nat) (caps : Array Value) (w : World) : Calls Tryz.prog 89 #[.func (.func n) #[] caps] w fun e w' => e = .returned (enlV w.heap.size) ∧ Below w.heap.size w w' ∧ EnlAt w' w.heap.size (.func (.func n) #[] caps) := by
  have X2 : (((w.alloc (.cells #[.func (.func n) #[] caps] 129)).alloc (.cells #[.func (.func n) #[] caps] 129)).alloc (.cells #[.nilFunc] 77)).heap[w.heap.size + 1 + 1]? = some (.cells #[.nilFunc] 77) := al_eq (by simp)
  go_enter Tryz.func89, Tryz.ntmps89
  go_wp2_with fail
  refine (relist_any _ _ _).mono ?_
  rintro e w1 ⟨rfl, rfl⟩
  have Z := one_of X2
  obtain ⟨z0, zf⟩ := Z
  go_wp2_with fail
  rw [run_store _ _ _ _ _ (by rfl), z0]
  simp only [zf]
  go_wp2_with fail
  go_ret
  refine ⟨by simp [Nat.add_assoc], ?_, ?_⟩
  · repeat refine Below.alloc ?_ (by first | omega | (simp only [size_al]; omega)) _
    exact Below.refl _ _
  · exact ⟨al_lt (by simp; omega) (al_lt (by simp) (al_eq rfl)), al_lt (by simp) (al_eq (by simp)), al_eq (by simp)⟩
/-- The change of $push at block n: its batch lies at block c. -/
structure PushAt (w : World) (n c bn bi : Nat) (t : Tr) : Prop where
  enl : EnlAt w n (.func (.func 90) #[] #[.pointer (some ⟨c, 0, none⟩)])
  box : w.heap[c]? = some ((objU bn bi).obj 28)
  rep : VRep w (objT eachB (listT [t])) (objU bn bi).cs
theorem PushAt.keep {w w' : World} {n c bn bi : Nat} {t : Tr} (h : PushAt w n c bn bi t) (hb : Below w.heap.size w w') : PushAt w' n c bn bi t := ⟨h.enl.keep hb, block_keep h.box hb, VRep.keep hb _ _ h.rep⟩
set_option maxHeartbeats 1000000 in
set_option maxRecDepth 100000 in
theorem push_plain (t : Tr) (u : V5) (hk : u.k ≠ 6) (w : World) (hV : VRep w t u.cs) :
    Calls Tryz.prog 47 #[u.v] w fun e w' => Below w.heap.size w w' ∧ ∃ n c bn bi, e = .returned (enlV n) ∧ PushAt w' n c bn bi t := by
  have hbt := batchOf_plain t u hk (w.alloc (u.obj 28)) (VRep.keep ((Below.refl _ w).alloc (Nat.le_refl _) _) _ _ hV)
  unfold V5.v at *
  unfold V5.obj at hbt
  go_enter Tryz.func47, Tryz.ntmps47
  go_wp2_with fail
  refine hbt.mono ?_
  rintro e w1 ⟨hb1, bn, bi, rfl, hV1⟩
  have hB1 := hid_of (((Below.refl _ w).alloc (Nat.le_refl _) _).trans (hb1.mono (by simp)))
  clear hb1 hbt
  replace hV1 := hid_of hV1
  unfold objU
  simp only
  have X0 := heap_alloc_new w1 (.cells #[.int .i64 0, .int .i64 0, .string ⟨#[]⟩, .slice none 0 0, .slice none 0 0] 28)
  obtain ⟨z0, z1, z2, z3, z4, zf⟩ := row_cells X0
  have zf0 := zf 0; have zf1 := zf 1; have zf2 := zf 2; have zf3 := zf 3; have zf4 := zf 4
  clear zf
  go_wp2_with fail
  refine (enlist_any _ _ _).mono ?_
  rintro e w2 ⟨rfl, hb2, hE⟩
  have hbA : Below w1.heap.size w1 (w1.alloc (.cells #[.int .i64 6, .int .i64 0, .string ⟨#[]⟩, .slice (some ⟨bn, 0, none⟩) 1 1, .slice (some ⟨bi, 0, none⟩) 1 1] 28)) := (Below.refl _ _).alloc (Nat.le_refl _) _
  have hsz := hB1.out.size
  have HE := hid_of hE
  have HX := hid_of (block_keep (heap_alloc_new w1 (.cells #[.int .i64 6, .int .i64 0, .string ⟨#[]⟩, .slice (some ⟨bn, 0, none⟩) 1 1, .slice (some ⟨bi, 0, none⟩) 1 1] 28)) hb2)
  have HB := hid_of ((hB1.out.trans (hbA.mono hsz)).trans (hb2.mono (by simp; omega)))
  have HR := hid_of (VRep.keep (hbA.trans (hb2.mono (by simp))) _ _ hV1.out)
  clear hE hb2 hbA hV1 hB1 X0 z0 z1 z2 z3 z4 zf0 zf1 zf2 zf3 zf4
  generalize (w1.alloc (.cells #[.int .i64 6, .int .i64 0, .string ⟨#[]⟩, .slice (some ⟨bn, 0, none⟩) 1 1, .slice (some ⟨bi, 0, none⟩) 1 1] 28)).heap.size = n at *
  go_wp2_with fail
  go_ret
  exact ⟨HB.out, n, w1.heap.size, bn, bi, rfl, HE.out, HX.out, HR.out⟩
end Go.Proofs.YthgnkhpomhcdkaaGreatDoor
