import Derived.Test.YtdfkfnhppjhghaaGreatQ3
import Derived.Laws.EntriesVeiled
/-! Lists of one value, asked by a function. -/
namespace Go.Proofs.YtdfkfnhppjhghaaGreat
open Go Go.RowKit

/-- What a function says of one value. -/
def Says (w : World) (k : Nat) (cap : Array Value) (v : Value) (z : Bool) : Prop := (∀ args W, (callFunc k args).run Tryz.prog W = .ok (.enter k args) W) ∧ ∀ W, Below w.heap.size w W → Calls Tryz.prog k (#[v] ++ cap) W fun e w' => e = .returned (.bool z) ∧ Below W.heap.size W w'
theorem Says.keep {w w' : World} {k : Nat} {cap : Array Value} {v : Value} {z : Bool} (h : Says w k cap v z) (hb : Below w.heap.size w w') : Says w' k cap v z := ⟨h.1, fun W hW => h.2 W (hb.trans (hW.mono hb.size))⟩
theorem enter_listed1 (args : Array Value) (W : World) : (callFunc 145 args).run Tryz.prog W = .ok (.enter 145 args) W := enters_of Tryz.func145 (by kernel_rfl) rfl args W
theorem enter_like (args : Array Value) (W : World) : (callFunc 83 args).run Tryz.prog W = .ok (.enter 83 args) W := enters_of Tryz.func83 (by kernel_rfl) rfl args W
set_option maxHeartbeats 1000000 in
set_option maxRecDepth 100000 in
theorem index_one (x : Int) (g c k : Nat) (cap : Array Value) (z : Bool) (w : World) (hV : NumAt w g 0 x) (hf : Hid (Says w k cap (numV x) z)) :
    Calls Tryz.prog 122 #[.slice (some ⟨g, 0, none⟩) 1 c, .func (.func k) #[] cap] w fun e w' => e = .returned (.int .i64 (if z then 0 else -1)) ∧ Below w.heap.size w w' := by
  obtain ⟨c0, c1, c2, c3, c4⟩ := hV
  simp only [Nat.zero_add] at c1 c2 c3 c4
  have hs := hf.out.2 w (Below.refl _ _)
  have hen := hf.out.1
  unfold numV at hs
  clear hf
  go_enter Tryz.func122, Tryz.ntmps122
  go_wp2_with fail
  refine wp_loop_rounds 2 ?_
  rw [rounds_succ]
  go_wp2_with fail
  refine hs.mono ?_
  rintro e w1 ⟨rfl, hb⟩
  clear hs c0 c1 c2 c3 c4
  cases z
  · go_wp2_with fail
    rw [rounds_succ]
    go_wp2_with fail
    go_ret
    exact ⟨rfl, hb⟩
  · go_wp2_with fail
    go_ret
    exact ⟨rfl, hb⟩
set_option maxHeartbeats 1000000 in
set_option maxRecDepth 100000 in
theorem contains_one (x : Int) (g c k : Nat) (cap : Array Value) (z : Bool) (w : World) (hV : NumAt w g 0 x) (hf : Hid (Says w k cap (numV x) z)) :
    Calls Tryz.prog 90 #[.slice (some ⟨g, 0, none⟩) 1 c, .func (.func k) #[] cap] w fun e w' => e = .returned (.bool z) ∧ Below w.heap.size w w' := by
  have hi := hid_of (index_one x g c k cap z w hV hf)
  clear hV hf
  go_enter Tryz.func90, Tryz.ntmps90
  go_wp2_with fail
  refine hi.out.mono ?_
  rintro e w1 ⟨rfl, hb⟩
  clear hi
  cases z
  all_goals
    simp only [if_true, Bool.false_eq_true, if_false]
    go_wp2_with fail
    go_ret
    exact ⟨rfl, hb⟩
/-- A number is no list. -/
theorem listed1_num (x : Int) (p : Value) (w : World) : Calls Tryz.prog 145 #[numV x, p] w fun e w' => e = .returned (.bool false) ∧ Below w.heap.size w w' := by
  unfold numV
  go_enter Tryz.func145, Tryz.ntmps145
  go_wp2_with fail
  go_ret
  exact ⟨rfl, (Below.refl _ w).alloc (Nat.le_refl _) _⟩
set_option maxHeartbeats 1000000 in
set_option maxRecDepth 100000 in
theorem listed_one (x : Int) (g c k : Nat) (cap : Array Value) (w : World) (hV : NumAt w g 0 x) :
    Calls Tryz.prog 120 #[.slice (some ⟨g, 0, none⟩) 1 c, .func (.func k) #[] cap] w fun e w' => e = .returned (.bool false) ∧ Below w.heap.size w w' := by
  have HB : Below w.heap.size w (w.alloc (.cells #[.func (.func k) #[] cap] 93)) := (Below.refl _ w).alloc (Nat.le_refl _) _
  have hc := hid_of (contains_one x g c 145 #[.pointer (some ⟨w.heap.size, 0, none⟩)] false _ (hV.keep HB) (hid_of ⟨enter_listed1, fun W _ => listed1_num x (.pointer (some ⟨w.heap.size, 0, none⟩)) W⟩))
  clear hV
  go_enter Tryz.func120, Tryz.ntmps120
  go_wp2_with fail
  refine hc.out.mono ?_
  rintro e w1 ⟨rfl, hb⟩
  go_wp2_with fail
  go_ret
  exact ⟨rfl, HB.trans (hb.mono HB.size)⟩
set_option maxHeartbeats 1000000 in
set_option maxRecDepth 100000 in
theorem tested_one (x : Int) (g c k : Nat) (cap : Array Value) (z : Bool) (w : World) (hV : NumAt w g 0 x) (hf : Hid (Says w k cap (numV x) z)) :
    Calls Tryz.prog 87 #[.slice (some ⟨g, 0, none⟩) 1 c, .func (.func k) #[] cap] w fun e w' => e = .returned (.bool z) ∧ Below w.heap.size w w' := by
  have HB : Below w.heap.size w (w.alloc (.cells #[.func (.func k) #[] cap] 24)) := (Below.refl _ w).alloc (Nat.le_refl _) _
  have hV1 := hV.keep HB
  have hc := hid_of (contains_one x g c k cap z _ hV1 (hid_of (hf.out.keep HB)))
  have hcell := cell_of_one (heap_alloc_new w (.cells #[.func (.func k) #[] cap] 24))
  clear hV hf
  go_enter Tryz.func87, Tryz.ntmps87
  go_wp2_with fail
  refine hc.out.mono ?_
  rintro e w1 ⟨rfl, hb⟩
  have hl := fun n cp => hid_of (listed_one x g c n cp w1 (hV1.keep hb))
  have hB1 := HB.trans (hb.mono HB.size)
  clear hc hV1 HB hb
  cases z
  · go_wp2_with fail
    refine (hl _ _).out.mono ?_
    rintro e w2 ⟨rfl, hb2⟩
    go_wp2_with fail
    go_ret
    exact ⟨rfl, hB1.trans (hb2.mono hB1.size)⟩
  · go_wp2_with fail
    go_ret
    exact ⟨rfl, hB1⟩
/-- The closure of a test {"$gt": 4}: its cells. -/
structure Gt (w : World) (b4 : Nat) : Prop where
  is : ∃ b3 b2, w.cell? ⟨b4, 0, none⟩ = some (.func (.func 83) #[] #[.pointer (some ⟨b3, 0, none⟩), .pointer (some ⟨b2, 0, none⟩)]) ∧ NumAt w b3 0 4 ∧ w.cell? ⟨b2, 0, none⟩ = some (.func (.func 56) #[] #[])
theorem Gt.keep {w w' : World} {b4 : Nat} (h : Gt w b4) (hb : Below w.heap.size w w') : Gt w' b4 := by
  obtain ⟨b3, b2, h1, h2, h3⟩ := h.is
  exact ⟨b3, b2, stay hb h1, h2.keep hb, stay hb h3⟩
set_option maxHeartbeats 1000000 in
set_option maxRecDepth 100000 in
theorem gt_one (x : Int) (hx : x = 4 ∨ x = 5) (g c b4 : Nat) (w : World) (hV : NumAt w g 0 x) (hG : Gt w b4) :
    Calls Tryz.prog 86 #[.slice (some ⟨g, 0, none⟩) 1 c, .pointer (some ⟨b4, 0, none⟩)] w fun e w' => e = .returned (.bool (decide (0 < cmpZ x))) ∧ Below w.heap.size w w' := by
  obtain ⟨b3, b2, h1, h2, h3⟩ := hG.is
  have ht := hid_of (tested_one x g c 83 #[.pointer (some ⟨b3, 0, none⟩), .pointer (some ⟨b2, 0, none⟩)] (decide (0 < cmpZ x)) w hV (hid_of ⟨enter_like, fun W hW => like_num x hx b3 b2 W (h2.keep hW) (stay hW h3)⟩))
  clear hV h2 h3 hG
  go_enter Tryz.func86, Tryz.ntmps86
  go_wp2_with fail
  refine ht.out.mono ?_
  rintro e w1 ⟨rfl, hb⟩
  go_wp2_with fail
  go_ret
  exact ⟨rfl, hb⟩
/-- A term of the test: seven cells. -/
def TermAt (w : World) (b : Nat) (b4 : Nat) : Prop := w.cell? ⟨b, 0, none⟩ = some (.int .i64 2) ∧ w.cell? ⟨b, 1, none⟩ = some (.int .i64 3) ∧ w.cell? ⟨b, 2, none⟩ = some (.int .i64 4) ∧ w.cell? ⟨b, 3, none⟩ = some (.string ⟨#[]⟩) ∧ w.cell? ⟨b, 4, none⟩ = some (.slice none 0 0) ∧ w.cell? ⟨b, 5, none⟩ = some (.slice none 0 0) ∧ w.cell? ⟨b, 6, none⟩ = some (.func (.func 86) #[] #[.pointer (some ⟨b4, 0, none⟩)])
theorem TermAt.keep {w w' : World} {b b4 : Nat} (h : TermAt w b b4) (hb : Below w.heap.size w w') : TermAt w' b b4 := ⟨stay hb h.1, stay hb h.2.1, stay hb h.2.2.1, stay hb h.2.2.2.1, stay hb h.2.2.2.2.1, stay hb h.2.2.2.2.2.1, stay hb h.2.2.2.2.2.2⟩
set_option maxHeartbeats 1000000 in
set_option maxRecDepth 100000 in
theorem holds_one (x : Int) (hx : x = 4 ∨ x = 5) (g c bt ct b4 : Nat) (w : World) (hV : NumAt w g 0 x) (hT : TermAt w bt b4) (hG : Gt w b4) :
    Calls Tryz.prog 48 #[.slice (some ⟨bt, 0, none⟩) 1 ct, .slice (some ⟨g, 0, none⟩) 1 c] w fun e w' => e = .returned (.bool (decide (0 < cmpZ x))) ∧ Below w.heap.size w w' := by
  have HB : ∀ o, Below w.heap.size w (w.alloc o) := fun o => (Below.refl _ w).alloc (Nat.le_refl _) _
  have hg := fun o => hid_of (gt_one x hx g c b4 _ (hV.keep (HB o)) (hG.keep (HB o)))
  obtain ⟨t0, t1, t2, t3, t4, t5, t6⟩ := hT
  clear hV hG
  generalize decide (0 < cmpZ x) = z at *
  go_enter Tryz.func48, Tryz.ntmps48
  go_wp2_with fail
  refine wp_loop_rounds 2 ?_
  rw [rounds_succ]
  go_wp2_with fail
  refine (hg _).out.mono ?_
  rintro e w1 ⟨rfl, hb⟩
  have hB1 := (HB _).trans (hb.mono (HB _).size)
  clear hg hb HB t0 t1 t2 t3 t4 t5 t6
  cases z
  · go_wp2_with fail
    go_ret
    exact ⟨rfl, hB1⟩
  · go_wp2_with fail
    rw [rounds_succ]
    go_wp2_with fail
    go_ret
    exact ⟨rfl, hB1⟩
end Go.Proofs.YtdfkfnhppjhghaaGreat
