import Derived.Test.YthgnkhpomhcdkaaGreatDoorUI
import Derived.Test.YthgnkhpomhcdkaaGreatDoorOY
import Derived.Deep.AppendLies
/-! A frame by types: what is no row of paths or terms and no reader is kept. -/
namespace Go.Proofs.YthgnkhpomhcdkaaGreatDoor
open Go Go.RowKit

def Other : Obj → Prop
  | .cells _ t _ => t ≠ 63 ∧ t ≠ 58 ∧ t ≠ 55
  | _ => True
theorem other_cells {cs : Array Value} {t : TypeId} {fz : Nat × Nat} (h : t ≠ 63 ∧ t ≠ 58 ∧ t ≠ 55) : Other (.cells cs t fz) := h
structure FrT (w w' : World) : Prop where
  size : w.heap.size ≤ w'.heap.size
  block : ∀ (k : Nat) (o : Obj), w.heap[k]? = some o → Other o → w'.heap[k]? = some o
theorem FrT.refl (w : World) : FrT w w := ⟨Nat.le_refl _, fun _ _ h _ => h⟩
theorem FrT.trans {a b c : World} (h : FrT a b) (h' : FrT b c) : FrT a c := ⟨Nat.le_trans h.size h'.size, fun k o e ho => h'.block k o (h.block k o e ho) ho⟩
theorem FrT.of {w w' : World} (h : Below w.heap.size w w') : FrT w w' := ⟨h.size, fun _ _ e _ => block_keep e h⟩
theorem FrT.of_lt {B : Nat} {w w' : World} (h : Below B w w') (hB : w.heap.size ≤ B) : FrT w w' := ⟨h.size, fun k _ e _ => (h.block k (Nat.lt_of_lt_of_le (Array.getElem?_eq_some_iff.1 e).1 hB)).trans e⟩
/-- One block of the types that may be written is. -/
theorem FrT.but {w w' : World} {g : Nat} (hs : w.heap.size ≤ w'.heap.size) (h : ∀ k : Nat, k < w.heap.size → k ≠ g → w'.heap[k]? = w.heap[k]?) (hg : ∀ o : Obj, w.heap[g]? = some o → ¬ Other o) : FrT w w' := by
  refine ⟨hs, fun k o e ho => ?_⟩
  by_cases hk : k = g
  · subst hk; exact absurd ho (hg o e)
  · exact (h k (Array.getElem?_eq_some_iff.1 e).1 hk).trans e
/-- A text's row of one. -/
def PthAt (w : World) (g : Nat) (s : ByteArray) : Prop := ∃ cs, w.heap[g]? = some (.cells cs 9 (0, 0)) ∧ cs[0]? = some (.string s)
theorem PthAt.cell {w : World} {g : Nat} {s : ByteArray} (h : PthAt w g s) : w.cell? ⟨g, 0, none⟩ = some (.string s) := by
  obtain ⟨cs, h1, h2⟩ := h
  rw [cell_of h1 0]; exact h2
theorem PthAt.keep {w w' : World} {g : Nat} {s : ByteArray} (h : PthAt w g s) (hf : FrT w w') : PthAt w' g s := by
  obtain ⟨cs, h1, h2⟩ := h
  exact ⟨cs, hf.block _ _ h1 (other_cells (by decide)), h2⟩
theorem IncAt.keepT {w w' : World} {b : Nat} {u : V5} (h : IncAt w b u) (hf : FrT w w') : IncAt w' b u :=
  ⟨hf.block _ _ h.box (by unfold V5.obj; exact other_cells (by decide)), hf.block _ _ h.first (other_cells (by decide)), hf.block _ _ h.next (other_cells (by decide))⟩
theorem EnlAt.keepT {w w' : World} {n : Nat} {f : Value} (h : EnlAt w n f) (hf : FrT w w') : EnlAt w' n f :=
  ⟨hf.block _ _ h.own (other_cells (by decide)), hf.block _ _ h.same (other_cells (by decide)), hf.block _ _ h.re (other_cells (by decide))⟩
theorem VerbsAt.keepT {w w' : World} {n : Nat} (h : VerbsAt w n) (hf : FrT w w') : VerbsAt w' n := by
  obtain ⟨h0, h1, h2, h3, h4, h5, h6, h7, h8, h9, h10, h11, h12⟩ := h
  constructor
  all_goals first
    | exact hf.block _ _ (by assumption) (other_cells (by decide))
/-- A value that lies in blocks that are kept. -/
def SeenT (w : World) (t : Tr) (cs : List Value) : Prop := ∃ S : Nat → Prop, Seen w S t cs ∧ ∀ k, S k → ∃ o : Obj, w.heap[k]? = some o ∧ Other o
theorem SeenT.rep {w : World} {t : Tr} {cs : List Value} (h : SeenT w t cs) : VRep w t cs := by obtain ⟨S, h, -⟩ := h; exact h.rep
theorem SeenT.keep {w w' : World} {t : Tr} {cs : List Value} (h : SeenT w t cs) (hf : FrT w w') : SeenT w' t cs := by
  obtain ⟨S, h1, h2⟩ := h
  refine ⟨S, h1.agree ⟨hf.size, fun p u hp hc => ?_⟩, fun k hk => ?_⟩
  · obtain ⟨o, ho, hO⟩ := h2 _ hp
    have hx := hf.block _ _ ho hO
    unfold World.cell? at *
    rw [ho] at hc; rw [hx]; exact hc
  · obtain ⟨o, ho, hO⟩ := h2 _ hk
    exact ⟨o, hf.block _ _ ho hO, hO⟩
end Go.Proofs.YthgnkhpomhcdkaaGreatDoor
/-! update: readPath and push, with the types of what they make. -/
namespace Go.Proofs.YthgnkhpomhcdkaaGreatDoor
open Go Go.RowKit

set_option maxHeartbeats 2000000 in
theorem readPath_blk (s : ByteArray) (m : Int) (w : World) (hm : w.cell? ⟨1, 0, none⟩ = some (.int .i64 m)) (hs : Hid (Dp.seg s = true)) (hsz : s.size < 4294967281)
    (hp : Hid (Lib.splitB ⟨#[46]⟩ 0 (min 17 (s.size + 1) - 1) s = [s])) :
    Calls Tryz.prog 193 #[.string s] w fun e w' => ∃ c, e = .returned (.tuple #[.slice (some ⟨w.heap.size, 0, none⟩) 1 c, .bool true]) ∧ (1 ≤ c ∧ c ≤ 17) ∧ Below w.heap.size w w' ∧ PthAt w' w.heap.size s := by
  go_enter Tryz.func193, Tryz.ntmps193
  go_wp2_with fail
  refine (Tryz.strings_SplitN s ⟨#[46]⟩ 17 m _ hsz hm (by decide) (by decide) (by decide)).mono ?_
  rintro e w1 ⟨rfl, rfl⟩
  rw [hp.out]
  have hb1 : Below w.heap.size w (w.alloc (.cells (Lib.cellsOf [s] (min 17 (s.size + 1))) 9)) := (Below.refl _ w).alloc (Nat.le_refl _) _
  have hP : PthAt (w.alloc (.cells (Lib.cellsOf [s] (min 17 (s.size + 1))) 9)) w.heap.size s := ⟨_, heap_alloc_new w _, by simp [Lib.cellsOf]⟩
  have hc1 := hP.cell
  replace hP := hid_of hP
  have hl1 : w.heap.size < (w.alloc (.cells (Lib.cellsOf [s] (min 17 (s.size + 1))) 9)).heap.size := by simp
  have hcap : 1 ≤ min 17 (s.size + 1) := by omega
  have hcap2 : min 17 (s.size + 1) ≤ 17 := by omega
  rw [show [s].length = 1 from rfl]
  clear hp
  generalize w.alloc (.cells (Lib.cellsOf [s] (min 17 (s.size + 1))) 9) = w1 at *
  generalize min 17 (s.size + 1) = cp at *
  go_wp2_with fail
  refine (useg_any s _).mono ?_
  rintro e w2 ⟨rfl, rfl⟩
  rw [hs.out]
  have hb2 : Below w.heap.size w (w1.alloc (.cells #[.string s] 9)) := hb1.alloc (Nat.le_of_lt hl1) _
  have hc2 : (w1.alloc (.cells #[.string s] 9)).cell? ⟨w.heap.size, 0, none⟩ = some (.string s) := cell_alloc' hc1 _
  have hP2 := hid_of (hP.out.keep (FrT.of ((Below.refl _ w1).alloc (Nat.le_refl _) (.cells #[.string s] 9))))
  clear hP
  generalize w1.alloc (.cells #[.string s] 9) = w2 at *
  go_wp2_with fail
  all_goals
    go_loopw [6, 22] (fun _ i wr => wr = w2 ∧ i = .int .i64 0) (fun _ _ _ => 0)
    · exact ⟨rfl, rfl⟩
    · obtain ⟨rfl, rfl⟩ := hrel
      go_wp2_with fail
      go_ret2
      refine ⟨_, rfl, ?_, hb2, hP2.out⟩
      first | exact ⟨hcap, hcap2⟩ | (have := hcap; omega)
set_option maxHeartbeats 1000000 in
set_option maxRecDepth 100000 in
theorem uobject_blk (s : ByteArray) (u : V5) (w : World) :
    Calls Tryz.prog 136 #[.string s, u.v] w fun e w' => Below w.heap.size w w' ∧ ∃ bn bi, e = .returned (objU bn bi).v ∧ w'.heap[bn]? = some (.cells #[.string s] 9) ∧ w'.heap[bi]? = some (u.obj 28) ∧ w.heap.size ≤ bn ∧ w.heap.size ≤ bi := by
  unfold V5.v objU V5.obj
  simp only
  go_enter Tryz.func136, Tryz.ntmps136
  go_wp2
  go_returns
  refine ⟨?_, w.heap.size + 1 + 1, w.heap.size + 1 + 1 + 1, rfl, ?_, ?_, by omega, by omega⟩
  · exact ((((Below.refl _ w).alloc (Nat.le_refl _) _).alloc (by simp) _).alloc (by simp; omega) _).alloc (by simp; omega) _
  · exact al_lt (by simp) (heap_new' (by simp))
  · exact heap_new' (by simp)
theorem five_at {w : World} {b : Nat} {u : V5} {ty : TypeId} (h : w.heap[b]? = some (u.obj ty)) : FiveAt w b u := by
  intro j v hj
  unfold V5.obj at h
  rw [cell_of h j]
  unfold V5.cs five at hj
  simpa using hj
/-- A value in kept blocks that is boxed in an object of one member. -/
theorem seen_obj {w : World} {s : ByteArray} {t : Tr} {u : V5} {bn bi : Nat} (hn : w.heap[bn]? = some (.cells #[.string s] 9)) (hi : w.heap[bi]? = some (u.obj 28)) (ht : SeenT w t u.cs) : SeenT w (objT s t) (objU bn bi).cs := by
  obtain ⟨S, h1, h2⟩ := ht
  refine ⟨fun k => S k ∨ k = bn ∨ k = bi, fun W' ha => ?_, fun k hk => ?_⟩
  · have ht' := h1 W' ⟨ha.1, fun p u hp hc => ha.2 p u (.inl hp) hc⟩
    refine vrep_obj (ha.2 _ _ (.inr (.inl rfl)) (cell_of hn 0)) (fun j v hj => ha.2 _ _ (.inr (.inr rfl)) (five_at hi j v hj)) ht'
  · rcases hk with hk | rfl | rfl
    · exact h2 k hk
    · exact ⟨_, hn, other_cells (by decide)⟩
    · exact ⟨_, hi, by unfold V5.obj; exact other_cells (by decide)⟩
theorem seen_row_one {w : World} {lo : Nat} {ao : Option Addr} {ci : Nat} {t : Tr} {u : V5} (ho : w.ownsRow lo 28 5 (.slice ao 1 ci) 1 u.cs) (hV : SeenT w t u.cs) : SeenT w (listT [t]) (listU ao 1 ci).cs := by
  obtain ⟨S, h1, h2⟩ := hV
  rcases ho.2 with ⟨-, h0⟩ | ⟨g2, cap, cur, e2, hb2, hg2, hle, hmax, hsz, htk⟩
  · exact absurd h0 (by decide)
  simp only [Value.slice.injEq, true_and] at e2
  obtain ⟨rfl, rfl⟩ := e2
  refine ⟨fun k => S k ∨ k = g2, fun W' ha => ?_, fun k hk => ?_⟩
  · have ht' := h1 W' ⟨ha.1, fun p u hp hc => ha.2 p u (.inl hp) hc⟩
    have hlt := (Array.getElem?_eq_some_iff.1 hg2).1
    refine vrep_list (.inr ⟨g2, 0, rfl, Nat.lt_of_lt_of_le hlt ha.1, ?_⟩) ⟨hle, Nat.le_trans hmax (by decide)⟩
    unfold VRepL
    refine ⟨u.cs, fun j x hj => ?_, ht', by unfold VRepL; trivial⟩
    have hj5 : j < 5 := by
      have := (List.getElem?_eq_some_iff.1 hj).1
      simpa [V5.cs, five] using this
    rw [Nat.zero_add]
    exact ha.2 _ _ (.inr rfl) (by rw [ho.cellAt j (by omega)]; exact hj)
  · rcases hk with hk | rfl
    · exact h2 k hk
    · exact ⟨_, hg2, other_cells (by decide)⟩
set_option maxHeartbeats 1000000 in
set_option maxRecDepth 100000 in
theorem batchOf_seen (t : Tr) (u : V5) (hk : u.k ≠ 6) (w : World) (hV : SeenT w t u.cs) :
    Calls Tryz.prog 88 #[u.v] w fun e w' => Below w.heap.size w w' ∧ ∃ bn bi, e = .returned (objU bn bi).v ∧ SeenT w' (objT eachB (listT [t])) (objU bn bi).cs := by
  have hbg := begins_not u hk
  have HV : Hid (SeenT w t u.cs) := hV
  clear hV
  unfold V5.v at *
  go_enter Tryz.func88, Tryz.ntmps88
  go_wp2_with fail
  have A0 : ((w.alloc (u.obj 28)).alloc (.cells #[.int .i64 0, .int .i64 0, .string ⟨#[]⟩, .slice none 0 0, .slice none 0 0] 28)).heap[w.heap.size]? = some (u.obj 28) := al_lt (by simp) (al_eq rfl)
  have A1 : ((w.alloc (u.obj 28)).alloc (.cells #[.int .i64 0, .int .i64 0, .string ⟨#[]⟩, .slice none 0 0, .slice none 0 0] 28)).heap[w.heap.size + 1]? = some (.cells #[.int .i64 0, .int .i64 0, .string ⟨#[]⟩, .slice none 0 0, .slice none 0 0] 28) := al_eq (by simp)
  have hB0 : Below w.heap.size w ((w.alloc (u.obj 28)).alloc (.cells #[.int .i64 0, .int .i64 0, .string ⟨#[]⟩, .slice none 0 0, .slice none 0 0] 28)) := ((Below.refl _ w).alloc (Nat.le_refl _) _).alloc (by simp) _
  refine (hbg _).mono ?_
  rintro e w1 ⟨rfl, hb⟩
  replace hb : Below ((w.alloc (u.obj 28)).alloc (.cells #[.int .i64 0, .int .i64 0, .string ⟨#[]⟩, .slice none 0 0, .slice none 0 0] 28)).heap.size ((w.alloc (u.obj 28)).alloc (.cells #[.int .i64 0, .int .i64 0, .string ⟨#[]⟩, .slice none 0 0, .slice none 0 0] 28)) w1 := hb
  have C0 := block_keep A0 hb
  have C1 := block_keep A1 hb
  have hB1 := hid_of (hB0.trans (hb.mono hB0.size))
  clear hb hB0 A0 A1
  unfold V5.obj at C0
  obtain ⟨z0, z1, z2, z3, z4, -⟩ := row_cells C0
  replace C1 := hid_of C1
  go_wp2_with fail
  refine (Tree.listed_code (some ⟨w1.heap.size, 0, none⟩) 1 1 w1.heap.size u.cs _ (World.ownsRow_lit w1 #[.int .i64 u.k, .int .i64 u.x, .string u.s, .slice u.an u.ln u.cn, .slice u.ai u.li u.ci] 1 (Nat.le_refl _) (by decide) (by rfl)) (five_cs u) (by decide)).mono ?_
  rintro e w2 ⟨ao, ci, rfl, hb2, ho⟩
  have hB2 := hid_of (hB1.out.trans ((Below.refl _ w1).alloc (Nat.le_refl _) _ |>.mono hB1.out.size) |>.trans (hb2.mono (by have := hB1.out.size; simp; omega)))
  have C2 := hid_of (block_keep (al_lt (Array.getElem?_eq_some_iff.1 C1.out).1 C1.out) hb2)
  have hl1 : w.heap.size + 1 < w1.heap.size := (Array.getElem?_eq_some_iff.1 C1.out).1
  have hlo : w1.heap.size < (w1.alloc (.cells #[.int .i64 u.k, .int .i64 u.x, .string u.s, .slice u.an u.ln u.cn, .slice u.ai u.li u.ci] 28)).heap.size := by simp
  have hlo2 := hb2.size
  generalize (w1.alloc (.cells #[.int .i64 u.k, .int .i64 u.x, .string u.s, .slice u.an u.ln u.cn, .slice u.ai u.li u.ci] 28)).heap.size = M at *
  clear z0 z1 z2 z3 z4 hb2 C0 C1
  go_wp2_with fail
  refine (uobject_blk _ (listU ao 1 ci) _).mono ?_
  rintro e w3 ⟨hb3, bn, bi, rfl, hn, hi, hbn, hbi⟩
  have C3 := block_keep C2.out hb3
  have HO : Hid (w3.ownsRow M 28 5 (.slice ao 1 ci) 1 u.cs) := hid_of (ownsRow_below ho hb3)
  have HI := hid_of hi
  have HB3 := hid_of (hB2.out.trans (hb3.mono hB2.out.size))
  have hs3 := hb3.size
  have HN := hid_of hn
  clear ho hi hb3 hB2 C2 hbg hB1 hn
  obtain ⟨z0, z1, z2, z3, z4, zf⟩ := row_cells C3
  have zf0 := zf 0; have zf1 := zf 1; have zf2 := zf 2; have zf3 := zf 3; have zf4 := zf 4
  clear zf
  unfold objU V5.v
  simp only
  go_wp2_with fail
  have hr5 := put5_cells C3 (.int .i64 6) (.int .i64 0) (.string ⟨#[]⟩) (.slice (some ⟨bn, 0, none⟩) 1 1) (.slice (some ⟨bi, 0, none⟩) 1 1)
  have r0 := hr5 0; have r1 := hr5 1; have r2 := hr5 2; have r3 := hr5 3; have r4 := hr5 4
  clear hr5
  refine bodyPost_ret (v := (objU bn bi).v) (by simp [results, Tryz.results88, go_sem, r0, r1, r2, r3, r4, objU, V5.v]) rfl ?_
  have hbF : Below w.heap.size w (put5 w3 (w.heap.size + 1) (.int .i64 6) (.int .i64 0) (.string ⟨#[]⟩) (.slice (some ⟨bn, 0, none⟩) 1 1) (.slice (some ⟨bi, 0, none⟩) 1 1)) := HB3.out.trans (put5_below (by omega) _ _ _ _ _)
  have far : ∀ {k : Nat}, w.heap.size + 1 < k → (put5 w3 (w.heap.size + 1) (.int .i64 6) (.int .i64 0) (.string ⟨#[]⟩) (.slice (some ⟨bn, 0, none⟩) 1 1) (.slice (some ⟨bi, 0, none⟩) 1 1)).heap[k]? = w3.heap[k]? := fun hk => put5_far _ _ _ _ _ (by omega)
  refine ⟨hbF, bn, bi, rfl, seen_obj ?_ ?_ (seen_row_one (ownsRow_keep HO.out fun j hj => far (by have := (ownsRow_ge HO.out hj).1; omega)) (SeenT.keep HV.out (FrT.of hbF)))⟩
  · exact (far (by show w.heap.size + 1 < bn; omega)).trans HN.out
  · exact (far (by show w.heap.size + 1 < bi; omega)).trans HI.out
/-- The change of $push at block n: its batch lies at block c. -/
structure PushT (w : World) (n c bn bi : Nat) (t : Tr) : Prop where
  enl : EnlAt w n (.func (.func 90) #[] #[.pointer (some ⟨c, 0, none⟩)])
  box : w.heap[c]? = some ((objU bn bi).obj 28)
  rep : SeenT w (objT eachB (listT [t])) (objU bn bi).cs
theorem PushT.keepT {w w' : World} {n c bn bi : Nat} {t : Tr} (h : PushT w n c bn bi t) (hb : FrT w w') : PushT w' n c bn bi t := ⟨h.enl.keepT hb, hb.block _ _ h.box (by unfold V5.obj; exact other_cells (by decide)), h.rep.keep hb⟩
set_option maxHeartbeats 1000000 in
set_option maxRecDepth 100000 in
theorem push_seen (t : Tr) (u : V5) (hk : u.k ≠ 6) (w : World) (hV : SeenT w t u.cs) :
    Calls Tryz.prog 47 #[u.v] w fun e w' => Below w.heap.size w w' ∧ ∃ n c bn bi, e = .returned (enlV n) ∧ PushT w' n c bn bi t := by
  have hbt := batchOf_seen t u hk (w.alloc (u.obj 28)) (hV.keep (FrT.of ((Below.refl _ w).alloc (Nat.le_refl _) _)))
  unfold V5.v at *
  unfold V5.obj at hbt
  go_enter Tryz.func47, Tryz.ntmps47
  go_wp2_with fail
  refine hbt.mono ?_
  rintro e w1 ⟨hb1, bn, bi, rfl, hV1⟩
  have hB1 := hid_of (((Below.refl _ w).alloc (Nat.le_refl _) _).trans (hb1.mono (by simp)))
  clear hb1 hbt
  replace hV1 := hid_of hV1
  unfold objU
  simp only
  have X0 := heap_alloc_new w1 (.cells #[.int .i64 0, .int .i64 0, .string ⟨#[]⟩, .slice none 0 0, .slice none 0 0] 28)
  obtain ⟨z0, z1, z2, z3, z4, zf⟩ := row_cells X0
  have zf0 := zf 0; have zf1 := zf 1; have zf2 := zf 2; have zf3 := zf 3; have zf4 := zf 4
  clear zf
  go_wp2_with fail
  refine (enlist_any _ _ _).mono ?_
  rintro e w2 ⟨rfl, hb2, hE⟩
  have hbA : Below w1.heap.size w1 (w1.alloc (.cells #[.int .i64 6, .int .i64 0, .string ⟨#[]⟩, .slice (some ⟨bn, 0, none⟩) 1 1, .slice (some ⟨bi, 0, none⟩) 1 1] 28)) := (Below.refl _ _).alloc (Nat.le_refl _) _
  have hsz := hB1.out.size
  have HE := hid_of hE
  have HX := hid_of (block_keep (heap_alloc_new w1 (.cells #[.int .i64 6, .int .i64 0, .string ⟨#[]⟩, .slice (some ⟨bn, 0, none⟩) 1 1, .slice (some ⟨bi, 0, none⟩) 1 1] 28)) hb2)
  have HB := hid_of ((hB1.out.trans (hbA.mono hsz)).trans (hb2.mono (by simp; omega)))
  have HR := hid_of (hV1.out.keep (FrT.of (hbA.trans (hb2.mono (by simp)))))
  clear hE hb2 hbA hV1 hB1 X0 z0 z1 z2 z3 z4 zf0 zf1 zf2 zf3 zf4
  generalize (w1.alloc (.cells #[.int .i64 6, .int .i64 0, .string ⟨#[]⟩, .slice (some ⟨bn, 0, none⟩) 1 1, .slice (some ⟨bi, 0, none⟩) 1 1] 28)).heap.size = n at *
  go_wp2_with fail
  go_ret
  exact ⟨HB.out, n, w1.heap.size, bn, bi, rfl, HE.out, HX.out, HR.out⟩
set_option maxHeartbeats 1000000 in
set_option maxRecDepth 100000 in
theorem term_push2 (g c b : Nat) (t : Tr) (u : V5) (hk : u.k ≠ 6) (w : World) (hV : SeenT w t u.cs) (hb : w.cell? ⟨b, 0, none⟩ = some (fn0 47)) :
    Calls Tryz.prog 70 #[pathV g c, u.v, .pointer (some ⟨b, 0, none⟩)] w fun e w' => Below w.heap.size w w' ∧ ∃ n c' bn bi, e = .returned (.tuple #[termV g c (enlV n), .nilIface]) ∧ PushT w' n c' bn bi t := by
  have ha := push_seen t u hk _ (hV.keep (FrT.of ((Below.refl _ w).alloc (Nat.le_refl _) (u.obj 28))))
  replace hb := cell_alloc' hb (u.obj 28)
  unfold V5.v at *
  unfold V5.obj at hb ha
  go_enter Tryz.func70, Tryz.ntmps70
  go_wp2_with fail
  refine ha.mono ?_
  rintro e w1 ⟨hb1, n, c', bn, bi, rfl, hI⟩
  have HB := hid_of (((Below.refl _ w).alloc (Nat.le_refl _) _).trans (hb1.mono (by simp)))
  clear hb1 ha
  replace hI := hid_of hI
  go_wp2_with fail
  go_ret2
  exact ⟨HB.out, n, c', bn, bi, rfl, hI.out⟩
end Go.Proofs.YthgnkhpomhcdkaaGreatDoor
/-! update: the reader's term. -/
namespace Go.Proofs.YthgnkhpomhcdkaaGreatDoor
open Go Go.RowKit

/-- The reader at block R, its rows of terms and of paths. -/
structure RdAt (w : World) (R lo : Nat) (vs mv tv pv : Value) (tc pc : List Value) : Prop where
  box : w.heap[R]? = some (.cells #[vs, tv, pv, mv] 63 (0, 0))
  ts : w.ownsRow lo 55 1 tv tc.length tc
  ps : w.ownsRow lo 58 1 pv pc.length pc
  low : R < lo
  big : lo ≤ w.heap.size
theorem RdAt.keep {w w' : World} {R lo : Nat} {vs mv tv pv : Value} {tc pc : List Value} (h : RdAt w R lo vs mv tv pv tc pc) (hb : Below w.heap.size w w') : RdAt w' R lo vs mv tv pv tc pc :=
  ⟨block_keep h.box hb, ownsRow_below h.ts hb, ownsRow_below h.ps hb, h.low, Nat.le_trans h.big hb.size⟩
theorem RdAt.at {w : World} {R lo : Nat} {vs mv tv pv : Value} {tc pc : List Value} (h : RdAt w R lo vs mv tv pv tc pc) (j : Nat) : w.cell? ⟨R, j, none⟩ = #[vs, tv, pv, mv][j]? ∧ w.frozen? ⟨R, j, none⟩ = false := ⟨cell_of h.box j, frozen_of h.box j⟩
theorem set_box {w : World} {R j : Nat} {a b c d x : Value} {t : TypeId} (h : w.heap[R]? = some (.cells #[a, b, c, d] t (0, 0))) : (w.setCell ⟨R, j, none⟩ x).heap[R]? = some (.cells (#[a, b, c, d].setIfInBounds j x) t (0, 0)) := by
  simp [World.setCell, Array.getElem?_modify, h]
theorem set_size (w : World) (a : Addr) (x : Value) : (w.setCell a x).heap.size = w.heap.size := by simp [World.setCell]
theorem own_type {w : World} {lo : Nat} {e : TypeId} {size : Nat} {v : Value} {n : Nat} {xs : List Value} (h : w.ownsRow lo e size v n xs) {g : Nat} (hg : v.ownBlock = some g) : ∃ cur, w.heap[g]? = some (.cells cur e (0, 0)) := by
  rcases h.2 with ⟨rfl, _⟩ | ⟨g', cap, cur, rfl, hg', hh, r⟩
  · cases hg
  · cases hg; exact ⟨cur, hh⟩
theorem apart_rows {w : World} {lo lo' : Nat} {e e' : TypeId} {s s' : Nat} {v v' : Value} {n n' : Nat} {xs xs' : List Value} (h : w.ownsRow lo e s v n xs) (h' : w.ownsRow lo' e' s' v' n' xs') (hne : e ≠ e') {g : Nat} (hg : v.ownBlock = some g) : v'.ownBlock ≠ some g := by
  intro hg'
  obtain ⟨c1, h1⟩ := own_type h hg
  obtain ⟨c2, h2⟩ := own_type h' hg'
  rw [h1] at h2
  simp only [Option.some.injEq, Obj.cells.injEq] at h2
  exact hne h2.2.1
/-- Paths grown. -/
theorem RdAt.path {w w' : World} {R lo g cap : Nat} {vs mv tv pv x : Value} {tc pc : List Value} (h : RdAt w R lo vs mv tv pv tc pc)
    (ho : w'.ownsRow lo 58 1 (.slice (some ⟨g, 0, none⟩) (pc.length + 1) cap) (pc.length + 1) (pc ++ [x])) (hg : w.grownBy w' pv.ownBlock) :
    RdAt (w'.setCell ⟨R, 2, none⟩ (.slice (some ⟨g, 0, none⟩) (pc.length + 1) cap)) R lo vs mv tv (.slice (some ⟨g, 0, none⟩) (pc.length + 1) cap) tc (pc ++ [x]) ∧
    FrT w (w'.setCell ⟨R, 2, none⟩ (.slice (some ⟨g, 0, none⟩) (pc.length + 1) cap)) ∧ (∀ B, B ≤ R → Below B w (w'.setCell ⟨R, 2, none⟩ (.slice (some ⟨g, 0, none⟩) (pc.length + 1) cap))) := by
  have hRlt := (Array.getElem?_eq_some_iff.1 h.box).1
  have hRp : some R ≠ pv.ownBlock := fun e => by have := (ownsRow_ge h.ps e.symm).1; have := h.low; omega
  have hbox : w'.heap[R]? = some (.cells #[vs, tv, pv, mv] 63 (0, 0)) := (hg.block R hRlt hRp).trans h.box
  have hgR : R < g := by
    have h1 : lo ≤ g := (ownsRow_ge ho rfl).1
    have := h.low; omega
  have hts : w'.ownsRow lo 55 1 tv tc.length tc := ownsRow_keep h.ts fun k hk => hg.block k (ownsRow_ge h.ts hk).2 fun e => apart_rows h.ts h.ps (by decide) hk e.symm
  have far : ∀ k, k ≠ R → (w'.setCell ⟨R, 2, none⟩ (.slice (some ⟨g, 0, none⟩) (pc.length + 1) cap)).heap[k]? = w'.heap[k]? := fun k hk => Below.heap_setCell _ _ _ _ hk
  refine ⟨⟨set_box hbox, ownsRow_keep hts fun k hk => far k (by have := (ownsRow_ge h.ts hk).1; have := h.low; omega), ?_, h.low, by rw [set_size]; exact Nat.le_trans h.big hg.size⟩, ?_, fun B hB => ?_⟩
  · rw [List.length_append]
    exact ownsRow_keep ho fun k hk => far k (by have := (ownsRow_ge ho hk).1; have := h.low; omega)
  · refine ⟨by rw [set_size]; exact hg.size, fun k o hk hO => ?_⟩
    have hkR : k ≠ R := by
      rintro rfl
      rw [h.box] at hk
      obtain rfl : _ = o := by simpa using hk
      exact absurd hO fun hO => hO.1 rfl
    refine (far k hkR).trans ((hg.block k (Array.getElem?_eq_some_iff.1 hk).1 fun e => ?_).trans hk)
    obtain ⟨cur, hcur⟩ := own_type h.ps e.symm
    rw [hcur] at hk
    obtain rfl : _ = o := by simpa using hk
    exact absurd hO fun hO => hO.2.1 rfl
  · refine (grown_below hg (by omega) (fun k hk => by have := (ownsRow_ge h.ps hk).1; have := h.low; omega)).trans ?_
    exact ⟨rfl, rfl, rfl, by rw [set_size]; exact Nat.le_refl _, fun k hk => far k (by omega)⟩
/-- Terms grown. -/
theorem RdAt.term {w w' : World} {R lo g cap : Nat} {vs mv tv pv x : Value} {tc pc : List Value} (h : RdAt w R lo vs mv tv pv tc pc)
    (ho : w'.ownsRow lo 55 1 (.slice (some ⟨g, 0, none⟩) (tc.length + 1) cap) (tc.length + 1) (tc ++ [x])) (hg : w.grownBy w' tv.ownBlock) :
    RdAt (w'.setCell ⟨R, 1, none⟩ (.slice (some ⟨g, 0, none⟩) (tc.length + 1) cap)) R lo vs mv (.slice (some ⟨g, 0, none⟩) (tc.length + 1) cap) pv (tc ++ [x]) pc ∧
    FrT w (w'.setCell ⟨R, 1, none⟩ (.slice (some ⟨g, 0, none⟩) (tc.length + 1) cap)) ∧ (∀ B, B ≤ R → Below B w (w'.setCell ⟨R, 1, none⟩ (.slice (some ⟨g, 0, none⟩) (tc.length + 1) cap))) := by
  have hRlt := (Array.getElem?_eq_some_iff.1 h.box).1
  have hRp : some R ≠ tv.ownBlock := fun e => by have := (ownsRow_ge h.ts e.symm).1; have := h.low; omega
  have hbox : w'.heap[R]? = some (.cells #[vs, tv, pv, mv] 63 (0, 0)) := (hg.block R hRlt hRp).trans h.box
  have hgR : R < g := by
    have h1 : lo ≤ g := (ownsRow_ge ho rfl).1
    have := h.low; omega
  have hps : w'.ownsRow lo 58 1 pv pc.length pc := ownsRow_keep h.ps fun k hk => hg.block k (ownsRow_ge h.ps hk).2 fun e => apart_rows h.ps h.ts (by decide) hk e.symm
  have far : ∀ k, k ≠ R → (w'.setCell ⟨R, 1, none⟩ (.slice (some ⟨g, 0, none⟩) (tc.length + 1) cap)).heap[k]? = w'.heap[k]? := fun k hk => Below.heap_setCell _ _ _ _ hk
  refine ⟨⟨set_box hbox, ?_, ownsRow_keep hps fun k hk => far k (by have := (ownsRow_ge h.ps hk).1; have := h.low; omega), h.low, by rw [set_size]; exact Nat.le_trans h.big hg.size⟩, ?_, fun B hB => ?_⟩
  · rw [List.length_append]
    exact ownsRow_keep ho fun k hk => far k (by have := (ownsRow_ge ho hk).1; have := h.low; omega)
  · refine ⟨by rw [set_size]; exact hg.size, fun k o hk hO => ?_⟩
    have hkR : k ≠ R := by
      rintro rfl
      rw [h.box] at hk
      obtain rfl : _ = o := by simpa using hk
      exact absurd hO fun hO => hO.1 rfl
    refine (far k hkR).trans ((hg.block k (Array.getElem?_eq_some_iff.1 hk).1 fun e => ?_).trans hk)
    obtain ⟨cur, hcur⟩ := own_type h.ts e.symm
    rw [hcur] at hk
    obtain rfl : _ = o := by simpa using hk
    exact absurd hO fun hO => hO.2.2 rfl
  · refine (grown_below hg (by omega) (fun k hk => by have := (ownsRow_ge h.ts hk).1; have := h.low; omega)).trans ?_
    exact ⟨rfl, rfl, rfl, by rw [set_size]; exact Nat.le_refl _, fun k hk => far k (by omega)⟩
end Go.Proofs.YthgnkhpomhcdkaaGreatDoor
/-! update: the reader's term. -/
namespace Go.Proofs.YthgnkhpomhcdkaaGreatDoor
open Go Go.RowKit Dp

theorem APth : (Tryz.prog.info? 58).map (fun i => (i.zero, i.size, i.bytes)) = some (some (.slice none 0 0), 1, 24) := by kernel_rfl
theorem ATrm : (Tryz.prog.info? 55).map (fun i => (i.zero, i.size, i.bytes)) = some (some .nilIface, 1, 16) := by kernel_rfl
theorem box_five {w w1 : World} {u : V5} {ty : TypeId} {b : Nat} (h : w.heap[b]? = some (u.obj ty)) (hb : Below w.heap.size w w1) : w1.cell? ⟨b, 0, none⟩ = some (.int .i64 u.k) ∧ w1.cell? ⟨b, 1, none⟩ = some (.int .i64 u.x) ∧ w1.cell? ⟨b, 2, none⟩ = some (.string u.s) ∧ w1.cell? ⟨b, 3, none⟩ = some (.slice u.an u.ln u.cn) ∧ w1.cell? ⟨b, 4, none⟩ = some (.slice u.ai u.li u.ci) := by
  have h' := block_keep h hb
  unfold V5.obj at h'
  exact ⟨cell_of h' 0, cell_of h' 1, cell_of h' 2, cell_of h' 3, cell_of h' 4⟩
set_option maxHeartbeats 8000000 in
set_option maxRecDepth 100000 in
theorem term_any (P : World → Nat → Array Value → Prop) (hP : ∀ w w' m caps, P w m caps → FrT w w' → P w' m caps)
    (R lo : Nat) (vs mv tv pv : Value) (tc pc : List Value) (tk vb : Nat) (s : ByteArray) (u : V5) (w : World) (hR : RdAt w R lo vs mv tv pv tc pc) (hnt : tc.length ≤ 8) (hnp : pc.length ≤ 8)
    (hread : Hid (∀ W, Below w.heap.size w W → Calls Tryz.prog 193 #[.string s] W fun e w' => ∃ c, e = .returned (.tuple #[pathV W.heap.size c, .bool true]) ∧ (1 ≤ c ∧ c ≤ 17) ∧ Below W.heap.size W w' ∧ PthAt w' W.heap.size s))
    (eg : ∀ args w, (callFunc tk args).run Tryz.prog w = .ok (.enter tk args) w)
    (htk : Hid (∀ W, Calls Tryz.prog tk #[u.v] W fun e w' => e = .returned (.bool true) ∧ Below W.heap.size W w'))
    (htm : Hid (∀ W g c, Below w.heap.size w W → Calls Tryz.prog 70 #[pathV g c, u.v, .pointer (some ⟨vb, 0, none⟩)] W fun e w' => Below W.heap.size W w' ∧ ∃ m caps, e = .returned (.tuple #[termV g c (.func (.func m) #[] caps), .nilIface]) ∧ P w' m caps))
    (hag : Hid (∀ W g c, Below w.heap.size w W → PthAt W g s → 1 ≤ c ∧ c ≤ 17 → Calls Tryz.prog 194 #[pv, clashF g c] W fun e w' => e = .returned (.bool false) ∧ Below W.heap.size W w')) :
    Calls Tryz.prog 154 #[.pointer (some ⟨R, 0, none⟩), .agg #[fn0 tk, fn1 70 vb], .string s, u.v] w fun e w' => e = .returned .nilIface ∧ ∃ g c m caps tv' pv', RdAt w' R lo vs mv tv' pv' (tc ++ [termV g c (.func (.func m) #[] caps)]) (pc ++ [pathV g c]) ∧ PthAt w' g s ∧ (1 ≤ c ∧ c ≤ 17) ∧ P w' m caps ∧ FrT w w' ∧ ∀ B, B ≤ R → Below B w w' := by
  obtain ⟨i1, hi1, hz10, hz11, hz12⟩ := info_parts APth
  obtain ⟨i2, hi2, hz20, hz21, hz22⟩ := info_parts ATrm
  obtain ⟨ta, tcp, rfl⟩ := ownsRow_slice hR.ts
  obtain ⟨pa, pcp, rfl⟩ := ownsRow_slice hR.ps
  have hB2 : Below w.heap.size w ((w.alloc (.cells #[fn0 tk, fn1 70 vb] 89)).alloc (u.obj 28)) := ((Below.refl _ w).alloc (Nat.le_refl _) _).alloc (by simp) _
  have X0 : ((w.alloc (.cells #[fn0 tk, fn1 70 vb] 89)).alloc (u.obj 28)).heap[w.heap.size]? = some (.cells #[fn0 tk, fn1 70 vb] 89) := al_lt (by simp) (al_eq rfl)
  have X1 : ((w.alloc (.cells #[fn0 tk, fn1 70 vb] 89)).alloc (u.obj 28)).heap[w.heap.size + 1]? = some (u.obj 28) := al_eq (by simp)
  have y1 : ((w.alloc (.cells #[fn0 tk, fn1 70 vb] 89)).alloc (u.obj 28)).cell? ⟨R, 1, none⟩ = some (.slice ta tc.length tcp) := ((hR.keep hB2).at 1).1
  have d64 : ((tc.length : Int) == 64) = false := by simp; omega
  have hRw : R < w.heap.size := (Array.getElem?_eq_some_iff.1 hR.box).1
  replace hR := hid_of hR; replace hB2 := hid_of hB2; replace X0 := hid_of X0; replace X1 := hid_of X1
  replace hP := hid_of hP
  unfold V5.v at *
  unfold V5.obj at y1 X0 X1 hB2
  go_enter Tryz.func154, Tryz.ntmps154
  go_wp2_with fail
  clear y1
  generalize (w.alloc (.cells #[fn0 tk, fn1 70 vb] 89)).alloc (.cells #[.int .i64 u.k, .int .i64 u.x, .string u.s, .slice u.an u.ln u.cn, .slice u.ai u.li u.ci] 28) = w0 at *
  refine (hread.out w0 hB2.out).mono ?_
  rintro e w1 ⟨c, rfl, hc, hb1, hp1⟩
  have HB1 := hid_of (hB2.out.trans (hb1.mono hB2.out.size))
  have C0 := hid_of (block_keep X0.out hb1)
  have C1 : Hid (w1.heap[w.heap.size + 1]? = some (u.obj 28)) := hid_of (block_keep X1.out hb1)
  replace hp1 := hid_of hp1
  replace hc := hid_of hc
  clear hb1 hB2 X0 X1 hread
  generalize w0.heap.size = g at *
  have v0 : w1.cell? ⟨w.heap.size, 0, none⟩ = some (fn0 tk) := cell_of C0.out 0
  have v1 : w1.cell? ⟨w.heap.size, 1, none⟩ = some (fn1 70 vb) := cell_of C0.out 1
  obtain ⟨z0, z1, z2, z3, z4⟩ := box_five C1.out (Below.refl _ w1)
  go_wp2_with fail
  refine (htk.out w1).mono ?_
  rintro e w2 ⟨rfl, hb2⟩
  have HB2 := hid_of (HB1.out.trans (hb2.mono HB1.out.size))
  have D0 := hid_of (block_keep C0.out hb2)
  have D1 := hid_of (block_keep C1.out hb2)
  have hp2 := hid_of (hp1.out.keep (FrT.of hb2))
  clear v0 v1 z0 z1 z2 z3 z4 hb2 HB1 C0 C1 hp1 htk
  have v1 : w2.cell? ⟨w.heap.size, 1, none⟩ = some (fn1 70 vb) := cell_of D0.out 1
  obtain ⟨z0, z1, z2, z3, z4⟩ := box_five D1.out (Below.refl _ w2)
  go_wp2_with fail
  refine (htm.out w2 g c HB2.out).mono ?_
  rintro e w3 ⟨hb3, m, caps, rfl, hp⟩
  have HB3 := hid_of (HB2.out.trans (hb3.mono HB2.out.size))
  have hp3 := hid_of (hp2.out.keep (FrT.of hb3))
  replace hp := hid_of hp
  clear v1 z0 z1 z2 z3 z4 hb3 HB2 D0 D1 hp2 htm
  go_wp2_with fail
  refine (pathsOf_any g c m caps w3).mono ?_
  rintro e w4 ⟨hb4, b, rfl, hcb⟩
  have HB4 := hid_of (HB3.out.trans (hb4.mono HB3.out.size))
  have hp4 := hid_of (hp3.out.keep (FrT.of hb4))
  have hq4 := hid_of (hP.out _ _ _ _ hp.out (FrT.of hb4))
  have hR4 := hid_of (hR.out.keep HB4.out)
  clear hb4 hp3 hp HB3 hR
  have y2 : w4.cell? ⟨R, 2, none⟩ = some (.slice pa pc.length pcp) := (hR4.out.at 2).1
  go_wp2_with fail
  refine wp_loop_rounds 2 ?_
  rw [rounds_succ]
  go_wp2_with fail
  refine (hag.out w4 g c HB4.out hp4.out hc.out).mono ?_
  rintro e w5 ⟨rfl, hb5⟩
  have HB5 := hid_of (HB4.out.trans (hb5.mono HB4.out.size))
  have hp5 := hid_of (hp4.out.keep (FrT.of hb5))
  have hq5 := hid_of (hP.out _ _ _ _ hq4.out (FrT.of hb5))
  have hR5 := hid_of (hR4.out.keep hb5)
  clear hb5 hp4 hq4 hR4 HB4 y2 hcb hag
  have y2 : w5.cell? ⟨R, 2, none⟩ = some (.slice pa pc.length pcp) := (hR5.out.at 2).1
  have f2 := (hR5.out.at 2).2
  have hps : w5.ownsRow lo 58 1 (.slice pa pc.length pcp) pc.length pc := hR5.out.ps
  have hbig := hR5.out.big
  have hRlt : R < w5.heap.size := by have := hR5.out.low; omega
  have hRp : some R ≠ (Value.slice pa pc.length pcp).ownBlock := fun e => by have := (ownsRow_ge hps e.symm).1; have := hR5.out.low; omega
  have fA := (World.frozen?_of_block (w := w5) (a := ⟨R, 2, none⟩) (Below.heap_alloc w5 (.cells #[pathV g c] 58) R hRlt)).trans f2
  go_wp2_with (at_builtin; refine wpList_append_lies _ rfl _ _ 56 rfl lo 58 i1 _ 1 24 Tryz.underlying56 hi1 hz10 hz11 hz12 rfl (by decide) _ pc.length pc rfl (hps.alloc _) _ 1 1 [pathV g c] rfl rfl (World.news_of_block (heap_alloc_new w5 _)) (by intro x hx; rw [List.mem_singleton.1 hx]; rfl) (by decide) (by unfold maxLen; omega) (by omega) (by simp only [World.size_alloc]; omega) _ rfl ?_; intro g2 cap2 w6 hown6 hgrow6 hat6 hlt6; have q2 := hgrow6.cell (cell_alloc' y2 _) hRp; have qf := (World.frozen?_of_block (hgrow6.block R (by simp only [World.size_alloc]; omega) hRp)).trans fA)
  have hRR := (hR5.out.keep ((Below.refl _ w5).alloc (Nat.le_refl _) (.cells #[pathV g c] 58))).path hown6 hgrow6
  have hR6 := hid_of hRR.1
  have HF6 := hid_of (((FrT.of HB5.out).trans (FrT.of ((Below.refl _ w5).alloc (Nat.le_refl _) (.cells #[pathV g c] 58)))).trans hRR.2.1)
  have hfx := (FrT.of ((Below.refl _ w5).alloc (Nat.le_refl _) (.cells #[pathV g c] 58))).trans hRR.2.1
  have hBB := hRR.2.2
  have HL6 : Hid (∀ B, B ≤ R → Below B w (w6.setCell ⟨R, 2, none⟩ (.slice (some ⟨g2, 0, none⟩) (pc.length + 1) cap2))) := hid_of fun B hB => (HB5.out.mono (by omega)).trans (((Below.refl B w5).alloc (by omega) _).trans (hBB B hB))
  have hp6 := hid_of (hp5.out.keep hfx)
  have hq6 := hid_of (hP.out _ _ _ _ hq5.out hfx)
  clear hRR hfx hBB hp5 hq5 hR5 HB5 y2 f2 hps hbig q2 qf fA hRp hown6 hgrow6 hat6 hlt6
  generalize w6.setCell ⟨R, 2, none⟩ (.slice (some ⟨g2, 0, none⟩) (pc.length + 1) cap2) = w7 at *
  go_wp2_with fail
  have y1 : w7.cell? ⟨R, 1, none⟩ = some (.slice ta tc.length tcp) := (hR6.out.at 1).1
  have f1 := (hR6.out.at 1).2
  have hts : w7.ownsRow lo 55 1 (.slice ta tc.length tcp) tc.length tc := hR6.out.ts
  have hbig := hR6.out.big
  have hRlt7 : R < w7.heap.size := by have := hR6.out.low; omega
  have hRp : some R ≠ (Value.slice ta tc.length tcp).ownBlock := fun e => by have := (ownsRow_ge hts e.symm).1; have := hR6.out.low; omega
  have fA := (World.frozen?_of_block (w := w7) (a := ⟨R, 1, none⟩) (Below.heap_alloc w7 (.cells #[termV g c (.func (.func m) #[] caps)] 55) R hRlt7)).trans f1
  rw [rounds_succ]
  go_wp2_with (at_builtin; refine wpList_append_lies _ rfl _ _ 49 rfl lo 55 i2 _ 1 16 Tryz.underlying49 hi2 hz20 hz21 hz22 rfl (by decide) _ tc.length tc rfl (hts.alloc _) _ 1 1 [termV g c (.func (.func m) #[] caps)] rfl rfl (World.news_of_block (heap_alloc_new w7 _)) (by intro x hx; rw [List.mem_singleton.1 hx]; rfl) (by decide) (by unfold maxLen; omega) (by omega) (by simp only [World.size_alloc]; omega) _ rfl ?_; intro g3 cap3 w8 hown8 hgrow8 hat8 hlt8; have q1 := hgrow8.cell (cell_alloc' y1 _) hRp; have qf := (World.frozen?_of_block (hgrow8.block R (by simp only [World.size_alloc]; omega) hRp)).trans fA)
  have hRR := (hR6.out.keep ((Below.refl _ w7).alloc (Nat.le_refl _) (.cells #[termV g c (.func (.func m) #[] caps)] 55))).term hown8 hgrow8
  have hfx := (FrT.of ((Below.refl _ w7).alloc (Nat.le_refl _) (.cells #[termV g c (.func (.func m) #[] caps)] 55))).trans hRR.2.1
  have hBB := hRR.2.2
  have HL8 : Hid (∀ B, B ≤ R → Below B w (w8.setCell ⟨R, 1, none⟩ (.slice (some ⟨g3, 0, none⟩) (tc.length + 1) cap3))) := hid_of fun B hB => (HL6.out B hB).trans (((Below.refl B w7).alloc (by omega) _).trans (hBB B hB))
  have hfin := hid_of (And.intro hRR.1 (And.intro (hp6.out.keep hfx) (And.intro hc.out (And.intro (hP.out _ _ _ _ hq6.out hfx) (And.intro (HF6.out.trans hfx) HL8.out)))))
  clear hRR hfx hBB hp6 hR6 HL6 HF6 hq6 y1 f1 hts hbig q1 qf fA hRp hown8 hgrow8 hat8 hlt8 HL8
  go_wp2_with fail
  go_ret
  obtain ⟨a1, a2, a3, a4, a5, a6⟩ := hfin.out
  exact ⟨rfl, g, c, m, caps, _, _, a1, a2, a3, a4, a5, a6⟩
end Go.Proofs.YthgnkhpomhcdkaaGreatDoor
/-! update: the reader's given. -/
namespace Go.Proofs.YthgnkhpomhcdkaaGreatDoor
open Go Go.RowKit Dp

/-- What a term that was taken leaves. -/
def TermPost (P : World → Nat → Array Value → Prop) (R lo : Nat) (vs mv : Value) (tc pc : List Value) (s : ByteArray) (w : World) (e : Ending) (w' : World) : Prop :=
  e = .returned .nilIface ∧ ∃ g c m caps tv' pv', RdAt w' R lo vs mv tv' pv' (tc ++ [termV g c (.func (.func m) #[] caps)]) (pc ++ [pathV g c]) ∧ PthAt w' g s ∧ (1 ≤ c ∧ c ≤ 17) ∧ P w' m caps ∧ FrT w w' ∧ ∀ B, B ≤ R → Below B w w'
theorem TermPost.from {P : World → Nat → Array Value → Prop} {R lo : Nat} {vs mv : Value} {tc pc : List Value} {s : ByteArray} {w W w' : World} {e : Ending} (h : TermPost P R lo vs mv tc pc s W e w') (hb : Below w.heap.size w W) (hR : R ≤ w.heap.size) : TermPost P R lo vs mv tc pc s w e w' := by
  obtain ⟨h0, g, c, m, caps, tv', pv', h1, h2, h3, h4, h5, h6⟩ := h
  exact ⟨h0, g, c, m, caps, tv', pv', h1, h2, h3, h4, (FrT.of hb).trans h5, fun B hB => (hb.mono (by omega)).trans (h6 B hB)⟩
set_option maxHeartbeats 4000000 in
set_option maxRecDepth 100000 in
theorem given_any (P : World → Nat → Array Value → Prop) (hP : ∀ w w' m caps, P w m caps → FrT w w' → P w' m caps) (R lo : Nat) (vs mv : Value) (tc pc : List Value) (f1 f2 : Value) (s : ByteArray) (u : V5) (x : V5) (ga oa gi oi : Nat) (w : World)
    (hk : x.k = 6) (hln : x.ln = 1) (hli : x.li = 1) (han : x.an = some ⟨ga, oa, none⟩) (hai : x.ai = some ⟨gi, oi, none⟩) (hn : w.cell? ⟨ga, oa, none⟩ = some (.string s)) (hi : ∀ j v, u.cs[j]? = some v → w.cell? ⟨gi, oi + j, none⟩ = some v) (hgi : gi < R) (hRw : R ≤ w.heap.size)
    (hT : Hid (∀ W, Below w.heap.size w W → Calls Tryz.prog 154 #[.pointer (some ⟨R, 0, none⟩), .agg #[f1, f2], .string s, u.v] W (TermPost P R lo vs mv tc pc s W))) :
    Calls Tryz.prog 106 #[.pointer (some ⟨R, 0, none⟩), .agg #[f1, f2], x.v] w (TermPost P R lo vs mv tc pc s w) := by
  obtain ⟨k, xx, xs, an, ln, cn, ai, li, ci⟩ := x
  simp only at hk hln hli han hai
  subst hk hln hli han hai
  have hm := hasMembers_any ⟨6, xx, xs, some ⟨ga, oa, none⟩, 1, cn, some ⟨gi, oi, none⟩, 1, ci⟩
  simp only [show ((6 : Int) == 6) = true from rfl, Bool.true_and] at hm
  have hB2 : Below w.heap.size w ((w.alloc (.cells #[f1, f2] 89)).alloc (.cells #[.int .i64 6, .int .i64 xx, .string xs, .slice (some ⟨ga, oa, none⟩) 1 cn, .slice (some ⟨gi, oi, none⟩) 1 ci] 28)) := ((Below.refl _ w).alloc (Nat.le_refl _) _).alloc (by simp) _
  have X0 : ((w.alloc (.cells #[f1, f2] 89)).alloc (.cells #[.int .i64 6, .int .i64 xx, .string xs, .slice (some ⟨ga, oa, none⟩) 1 cn, .slice (some ⟨gi, oi, none⟩) 1 ci] 28)).heap[w.heap.size]? = some (.cells #[f1, f2] 89) := al_lt (by simp) (al_eq rfl)
  have X1 : ((w.alloc (.cells #[f1, f2] 89)).alloc (.cells #[.int .i64 6, .int .i64 xx, .string xs, .slice (some ⟨ga, oa, none⟩) 1 cn, .slice (some ⟨gi, oi, none⟩) 1 ci] 28)).heap[w.heap.size + 1]? = some (.cells #[.int .i64 6, .int .i64 xx, .string xs, .slice (some ⟨ga, oa, none⟩) 1 cn, .slice (some ⟨gi, oi, none⟩) 1 ci] 28) := al_eq (by simp)
  obtain ⟨z0, z1, z2, z3, z4, -⟩ := row_cells X1
  replace hB2 := hid_of hB2; replace X0 := hid_of X0; replace X1 := hid_of X1
  replace hn := hid_of hn; replace hi := hid_of hi; replace hP := hid_of hP
  unfold V5.v at *
  simp only at hm ⊢
  go_enter Tryz.func106, Tryz.ntmps106
  go_wp2_with fail
  refine (hm _).mono ?_
  rintro e w1 ⟨rfl, hb1⟩
  have HB1 := hid_of (hB2.out.trans (hb1.mono hB2.out.size))
  have C0 := hid_of (block_keep X0.out hb1)
  have C1 := hid_of (block_keep X1.out hb1)
  clear hb1 hB2 X0 X1 hm z0 z1 z2 z3 z4
  obtain ⟨z0, z1, z2, z3, z4, -⟩ := row_cells C1.out
  have v0 : w1.cell? ⟨w.heap.size, 0, none⟩ = some f1 := cell_of C0.out 0
  have v1 : w1.cell? ⟨w.heap.size, 1, none⟩ = some f2 := cell_of C0.out 1
  have y0 : w1.cell? ⟨ga, oa, none⟩ = some (.string s) := stay HB1.out hn.out
  have u0 := stay HB1.out (hi.out 0 _ rfl)
  have u1 := stay HB1.out (hi.out 1 _ rfl)
  have u2 := stay HB1.out (hi.out 2 _ rfl)
  have u3 := stay HB1.out (hi.out 3 _ rfl)
  have u4 := stay HB1.out (hi.out 4 _ rfl)
  simp only [Nat.add_zero] at u0
  clear hi hn
  go_wp2_with fail
  refine wp_loop_rounds 2 ?_
  rw [rounds_succ]
  go_wp2_with fail
  have hgl : gi < w1.heap.size := by have := HB1.out.size; omega
  go_region_held3 (fun W => W.cell? ⟨w.heap.size, 0, none⟩ = some f1 ∧ W.cell? ⟨w.heap.size, 1, none⟩ = some f2 ∧ W.cell? ⟨w.heap.size + 1, 4, none⟩ = some (.slice (some ⟨gi, oi, none⟩) 1 ci) ∧ W.cell? ⟨gi, oi, none⟩ = some (.int .i64 u.k) ∧ W.cell? ⟨gi, oi + 1, none⟩ = some (.int .i64 u.x) ∧ W.cell? ⟨gi, oi + 2, none⟩ = some (.string u.s) ∧ W.cell? ⟨gi, oi + 3, none⟩ = some (.slice u.an u.ln u.cn) ∧ W.cell? ⟨gi, oi + 4, none⟩ = some (.slice u.ai u.li u.ci)) (go_keep) ((go_at_call 154; refine (hT.out w1.drew (below_drewN HB1.out 1)).mono ?_; rintro e X1 hX; obtain ⟨rfl, -⟩ := id hX; have hF : FrT w1.drew X1 := (by obtain ⟨-, g, c, m, caps, tv', pv', h1, h2, h3, h4, h5, h6⟩ := hX; exact h5); have hBR : Below R w1.drew X1 := (by obtain ⟨-, g, c, m, caps, tv', pv', h1, h2, h3, h4, h5, h6⟩ := hX; exact h6 R (Nat.le_refl _)); have k0 := hF.block _ _ (show w1.drew.heap[w.heap.size]? = _ from C0.out) (other_cells (by decide)); have k1 := hF.block _ _ (show w1.drew.heap[w.heap.size + 1]? = _ from C1.out) (other_cells (by decide)); have hXf := hid_of (hX.from (below_drewN HB1.out 1) hRw); have j0 := cell_of k0 0; have j1 := cell_of k0 1; have j4 := cell_of k1 4; simp only [List.getElem?_toArray, List.getElem?_cons_zero, List.getElem?_cons_succ] at j0 j1 j4; have i0 := (World.cell?_of_block (a := ⟨gi, oi, none⟩) (hBR.block gi (by omega))).trans u0; have i1 := (World.cell?_of_block (a := ⟨gi, oi + 1, none⟩) (hBR.block gi (by omega))).trans u1; have i2 := (World.cell?_of_block (a := ⟨gi, oi + 2, none⟩) (hBR.block gi (by omega))).trans u2; have i3 := (World.cell?_of_block (a := ⟨gi, oi + 3, none⟩) (hBR.block gi (by omega))).trans u3; have i4 := (World.cell?_of_block (a := ⟨gi, oi + 4, none⟩) (hBR.block gi (by omega))).trans u4; clear hX hF hBR k0 k1))
  clear z0 z1 z2 z3 z4 v0 v1 y0 u0 u1 u2 u3 u4 j0 j1 j4 i0 i1 i2 i3 i4 C0 C1 HB1 hT
  go_wp2_with fail
  rw [rounds_succ]
  go_wp2_with fail
  go_ret
  exact hXf.out
end Go.Proofs.YthgnkhpomhcdkaaGreatDoor
/-! update: the reader's operators. -/
namespace Go.Proofs.YthgnkhpomhcdkaaGreatDoor
open Go Go.RowKit Dp

/-- What both operators leave. -/
def OpsPost (P1 P2 : World → Nat → Array Value → Prop) (R lo : Nat) (vs mv : Value) (s1 s2 : ByteArray) (w : World) (e : Ending) (w' : World) : Prop :=
  e = .returned .nilIface ∧ ∃ g1 c1 m1 caps1 g2 c2 m2 caps2 tv pv, RdAt w' R lo vs mv tv pv [termV g1 c1 (.func (.func m1) #[] caps1), termV g2 c2 (.func (.func m2) #[] caps2)] [pathV g1 c1, pathV g2 c2] ∧ PthAt w' g1 s1 ∧ PthAt w' g2 s2 ∧ (1 ≤ c1 ∧ c1 ≤ 17) ∧ (1 ≤ c2 ∧ c2 ≤ 17) ∧ P1 w' m1 caps1 ∧ P2 w' m2 caps2 ∧ FrT w w' ∧ ∀ B, B ≤ R → Below B w w'
theorem TermPost.fr {P : World → Nat → Array Value → Prop} {R lo : Nat} {vs mv : Value} {tc pc : List Value} {s : ByteArray} {w w' : World} {e : Ending} (h : TermPost P R lo vs mv tc pc s w e w') : FrT w w' ∧ Below R w w' ∧ w'.cell? ⟨R, 0, none⟩ = some vs := by
  obtain ⟨-, g, c, m, caps, tv', pv', h1, h2, h3, h4, h5, h6⟩ := h
  exact ⟨h5, h6 R (Nat.le_refl _), (h1.at 0).1⟩
set_option maxHeartbeats 8000000 in
set_option maxRecDepth 100000 in
theorem operators_any (P1 P2 : World → Nat → Array Value → Prop) (hP1 : ∀ w w' m caps, P1 w m caps → FrT w w' → P1 w' m caps) (R lo n : Nat) (mv tv0 pv0 : Value) (s1 s2 : ByteArray) (x1 x2 : V5) (o : V5) (na no ia io : Nat) (w : World)
    (hk : o.k = 6) (hln : o.ln = 2) (hli : o.li = 2) (han : o.an = some ⟨na, no, none⟩) (hai : o.ai = some ⟨ia, io, none⟩)
    (hn1 : w.cell? ⟨na, no, none⟩ = some (.string ⟨#[36, 105, 110, 99]⟩)) (hn2 : w.cell? ⟨na, no + 1, none⟩ = some (.string ⟨#[36, 112, 117, 115, 104]⟩))
    (hi1 : ∀ j v, x1.cs[j]? = some v → w.cell? ⟨ia, io + j, none⟩ = some v) (hi2 : ∀ j v, x2.cs[j]? = some v → w.cell? ⟨ia, io + 5 + j, none⟩ = some v) (hia : ia < R) (hna : na < R)
    (hR : RdAt w R lo (.slice (some ⟨n + 12, 0, none⟩) 13 13) mv tv0 pv0 [] []) (hV : VerbsAt w n)
    (hG1 : Hid (∀ W, Below w.heap.size w W → Calls Tryz.prog 106 #[.pointer (some ⟨R, 0, none⟩), .agg #[fn0 38, fn1 70 (n + 2)], x1.v] W (TermPost P1 R lo (.slice (some ⟨n + 12, 0, none⟩) 13 13) mv [] [] s1 W)))
    (hG2 : Hid (∀ W g c m caps tv pv, RdAt W R lo (.slice (some ⟨n + 12, 0, none⟩) 13 13) mv tv pv [termV g c (.func (.func m) #[] caps)] [pathV g c] → PthAt W g s1 → 1 ≤ c ∧ c ≤ 17 → P1 W m caps → FrT w W → Below R w W → Calls Tryz.prog 106 #[.pointer (some ⟨R, 0, none⟩), .agg #[fn0 46, fn1 70 (n + 8)], x2.v] W (TermPost P2 R lo (.slice (some ⟨n + 12, 0, none⟩) 13 13) mv [termV g c (.func (.func m) #[] caps)] [pathV g c] s2 W))) :
    Calls Tryz.prog 56 #[.pointer (some ⟨R, 0, none⟩), o.v] w (OpsPost P1 P2 R lo (.slice (some ⟨n + 12, 0, none⟩) 13 13) mv s1 s2 w) := by
  obtain ⟨k, xx, xs, an, ln, cn, ai, li, ci⟩ := o
  simp only at hk hln hli han hai
  subst hk hln hli han hai
  have hm := hasMembers_any ⟨6, xx, xs, some ⟨na, no, none⟩, 2, cn, some ⟨ia, io, none⟩, 2, ci⟩
  simp only [show ((6 : Int) == 6) = true from rfl, Bool.true_and] at hm
  have hRw : R < w.heap.size := (Array.getElem?_eq_some_iff.1 hR.box).1
  have hB1 : Below w.heap.size w (w.alloc (.cells #[.int .i64 6, .int .i64 xx, .string xs, .slice (some ⟨na, no, none⟩) 2 cn, .slice (some ⟨ia, io, none⟩) 2 ci] 28)) := (Below.refl _ w).alloc (Nat.le_refl _) _
  have X1 := heap_alloc_new w (.cells #[.int .i64 6, .int .i64 xx, .string xs, .slice (some ⟨na, no, none⟩) 2 cn, .slice (some ⟨ia, io, none⟩) 2 ci] 28)
  obtain ⟨z0, z1, z2, z3, z4, -⟩ := row_cells X1
  replace hB1 := hid_of hB1; replace X1 := hid_of X1; replace hR := hid_of hR; replace hV := hid_of hV; replace hP1 := hid_of hP1
  replace hn1 := hid_of hn1; replace hn2 := hid_of hn2; replace hi1 := hid_of hi1; replace hi2 := hid_of hi2
  have n1 := numberOf_inc; have n2 := numberOf_push
  unfold V5.v at *
  simp only at hm ⊢
  go_enter Tryz.func56, Tryz.ntmps56
  go_wp2_with fail
  refine (hm _).mono ?_
  rintro e w1 ⟨rfl, hb1⟩
  have HB1 := hid_of (hB1.out.trans (hb1.mono hB1.out.size))
  have C1 := hid_of (block_keep X1.out hb1)
  clear hb1 hB1 X1 hm z0 z1 z2 z3 z4
  obtain ⟨z0, z1, z2, z3, z4, -⟩ := row_cells C1.out
  have y1 := stay HB1.out hn1.out
  have u0 := stay HB1.out (hi1.out 0 _ rfl)
  have u1 := stay HB1.out (hi1.out 1 _ rfl)
  have u2 := stay HB1.out (hi1.out 2 _ rfl)
  have u3 := stay HB1.out (hi1.out 3 _ rfl)
  have u4 := stay HB1.out (hi1.out 4 _ rfl)
  simp only [Nat.add_zero] at u0
  have r0 : w1.cell? ⟨R, 0, none⟩ = some (.slice (some ⟨n + 12, 0, none⟩) 13 13) := ((hR.out.keep HB1.out).at 0).1
  have hV1 := hid_of (hV.out.keepT (FrT.of HB1.out))
  have v0 : w1.cell? ⟨n + 12, 6, none⟩ = some (fn0 38) := cell_of hV1.out.row 6
  have v1 : w1.cell? ⟨n + 12, 7, none⟩ = some (fn1 70 (n + 2)) := cell_of hV1.out.row 7
  clear hV
  go_wp2_with fail
  refine wp_loop_rounds 3 ?_
  rw [rounds_succ]
  go_wp2_with fail
  refine (n1 _).mono ?_
  rintro e w1' ⟨rfl, rfl⟩
  go_wp2_with fail
  have hil : ia < w1'.heap.size := by have := HB1.out.size; omega
  go_region_held3 (fun W => W.cell? ⟨R, 0, none⟩ = some (.slice (some ⟨n + 12, 0, none⟩) 13 13) ∧ W.cell? ⟨n + 12, 6, none⟩ = some (fn0 38) ∧ W.cell? ⟨n + 12, 7, none⟩ = some (fn1 70 (n + 2)) ∧ W.cell? ⟨w.heap.size, 4, none⟩ = some (.slice (some ⟨ia, io, none⟩) 2 ci) ∧ W.cell? ⟨ia, io, none⟩ = some (.int .i64 x1.k) ∧ W.cell? ⟨ia, io + 1, none⟩ = some (.int .i64 x1.x) ∧ W.cell? ⟨ia, io + 2, none⟩ = some (.string x1.s) ∧ W.cell? ⟨ia, io + 3, none⟩ = some (.slice x1.an x1.ln x1.cn) ∧ W.cell? ⟨ia, io + 4, none⟩ = some (.slice x1.ai x1.li x1.ci)) (go_keep) ((go_at_call 106; refine (hG1.out w1'.drew (below_drewN HB1.out 1)).mono ?_; rintro e X1 hX; obtain ⟨rfl, -⟩ := id hX; obtain ⟨hF, hBR, k2⟩ := hX.fr; have k0 := (hV1.out.keepT (show FrT w1' X1 from ⟨hF.size, hF.block⟩)).row; have k1 := hF.block _ _ (show w1'.drew.heap[w.heap.size]? = _ from C1.out) (other_cells (by decide)); have HK1 := hid_of k1; have hXs : w1'.heap.size ≤ X1.heap.size := hF.size; have hXF : ∀ (k : Nat) (o : Obj), w1'.heap[k]? = some o → Other o → X1.heap[k]? = some o := hF.block; have hXf := hid_of (hX.from (below_drewN HB1.out 1) (Nat.le_of_lt hRw)); have j0 : X1.cell? ⟨n + 12, 6, none⟩ = some (fn0 38) := cell_of k0 6; have j1 : X1.cell? ⟨n + 12, 7, none⟩ = some (fn1 70 (n + 2)) := cell_of k0 7; have j4 := cell_of k1 4; simp only [List.getElem?_toArray, List.getElem?_cons_zero, List.getElem?_cons_succ] at j4; have i0 := (World.cell?_of_block (a := ⟨ia, io, none⟩) (hBR.block ia (by omega))).trans u0; have i1 := (World.cell?_of_block (a := ⟨ia, io + 1, none⟩) (hBR.block ia (by omega))).trans u1; have i2 := (World.cell?_of_block (a := ⟨ia, io + 2, none⟩) (hBR.block ia (by omega))).trans u2; have i3 := (World.cell?_of_block (a := ⟨ia, io + 3, none⟩) (hBR.block ia (by omega))).trans u3; have i4 := (World.cell?_of_block (a := ⟨ia, io + 4, none⟩) (hBR.block ia (by omega))).trans u4; clear hX hF hBR k0 k1))
  clear z0 z1 z2 z3 z4 v0 v1 y1 u0 u1 u2 u3 u4 j0 j1 j4 i0 i1 i2 i3 i4 r0 k2
  obtain ⟨-, g1, c1, m1, caps1, tv1, pv1, hR1, hp1, hc1, hq1, hF1, hL1⟩ := hXf.out
  have HL1 := hid_of (hL1 R (Nat.le_refl _))
  have y2 : X1.cell? ⟨na, no + 1, none⟩ = some (.string ⟨#[36, 112, 117, 115, 104]⟩) := (World.cell?_of_block (a := ⟨na, no + 1, none⟩) (HL1.out.block na hna)).trans hn2.out
  have hob : ∀ (j : Nat) v, x2.cs[j]? = some v → X1.cell? ⟨ia, io + 5 + j, none⟩ = some v := fun j v hj => (World.cell?_of_block (a := ⟨ia, io + 5 + j, none⟩) (HL1.out.block ia hia)).trans (hi2.out j v hj)
  have u0 := hob 0 _ rfl
  have u1 := hob 1 _ rfl
  have u2 := hob 2 _ rfl
  have u3 := hob 3 _ rfl
  have u4 := hob 4 _ rfl
  simp only [Nat.add_zero, Nat.add_assoc, Nat.reduceAdd] at u0 u1 u2 u3 u4
  have r0 : X1.cell? ⟨R, 0, none⟩ = some (.slice (some ⟨n + 12, 0, none⟩) 13 13) := (hR1.at 0).1
  have hV2 := hid_of (hV1.out.keepT (show FrT w1' X1 from ⟨hXs, hXF⟩))
  have v0 : X1.cell? ⟨n + 12, 16, none⟩ = some (fn0 46) := cell_of hV2.out.row 16
  have v1 : X1.cell? ⟨n + 12, 17, none⟩ = some (fn1 70 (n + 8)) := cell_of hV2.out.row 17
  have z4 : X1.cell? ⟨w.heap.size, 4, none⟩ = some (.slice (some ⟨ia, io, none⟩) 2 ci) := cell_of HK1.out 4
  have hil2 : ia < X1.heap.size := by have := HL1.out.size; omega
  have hg2 := hid_of (hG2.out X1.drew g1 c1 m1 caps1 tv1 pv1 (hR1.keep (below_drew (Below.refl _ X1))) (hp1.keep (FrT.of (below_drew (Below.refl _ X1)))) hc1 (hP1.out _ _ _ _ hq1 (FrT.of (below_drew (Below.refl _ X1)))) (hF1.trans (FrT.of (below_drew (Below.refl _ X1)))) (below_drew HL1.out))
  replace hR1 := hid_of hR1; replace hp1 := hid_of hp1; replace hq1 := hid_of hq1; replace hF1 := hid_of hF1; replace hL1 := hid_of hL1; replace hc1 := hid_of hc1
  clear hob hXf hXs hXF hV1 hi1 hi2 hn1 hn2 hG1 hG2
  go_wp2_with fail
  rw [rounds_succ]
  go_wp2_with fail
  refine (n2 _).mono ?_
  rintro e w2' ⟨rfl, rfl⟩
  go_wp2_with fail
  go_region_held3 (fun W => W.cell? ⟨R, 0, none⟩ = some (.slice (some ⟨n + 12, 0, none⟩) 13 13) ∧ W.cell? ⟨n + 12, 16, none⟩ = some (fn0 46) ∧ W.cell? ⟨n + 12, 17, none⟩ = some (fn1 70 (n + 8)) ∧ W.cell? ⟨w.heap.size, 4, none⟩ = some (.slice (some ⟨ia, io, none⟩) 2 ci) ∧ W.cell? ⟨ia, io + 5, none⟩ = some (.int .i64 x2.k) ∧ W.cell? ⟨ia, io + 6, none⟩ = some (.int .i64 x2.x) ∧ W.cell? ⟨ia, io + 7, none⟩ = some (.string x2.s) ∧ W.cell? ⟨ia, io + 8, none⟩ = some (.slice x2.an x2.ln x2.cn) ∧ W.cell? ⟨ia, io + 9, none⟩ = some (.slice x2.ai x2.li x2.ci)) (go_keep) ((go_at_call 106; refine hg2.out.mono ?_; rintro e X2 hX; obtain ⟨rfl, -⟩ := id hX; obtain ⟨hF, hBR, k2⟩ := hX.fr; have k0 := (hV2.out.keepT (show FrT w2' X2 from ⟨hF.size, hF.block⟩)).row; have k1 := hF.block _ _ (show w2'.drew.heap[w.heap.size]? = _ from HK1.out) (other_cells (by decide)); have hXf := hid_of hX; have j0 : X2.cell? ⟨n + 12, 16, none⟩ = some (fn0 46) := cell_of k0 16; have j1 : X2.cell? ⟨n + 12, 17, none⟩ = some (fn1 70 (n + 8)) := cell_of k0 17; have j4 := cell_of k1 4; simp only [List.getElem?_toArray, List.getElem?_cons_zero, List.getElem?_cons_succ] at j4; have i0 := (World.cell?_of_block (a := ⟨ia, io + 5, none⟩) (hBR.block ia (by omega))).trans u0; have i1 := (World.cell?_of_block (a := ⟨ia, io + 6, none⟩) (hBR.block ia (by omega))).trans u1; have i2 := (World.cell?_of_block (a := ⟨ia, io + 7, none⟩) (hBR.block ia (by omega))).trans u2; have i3 := (World.cell?_of_block (a := ⟨ia, io + 8, none⟩) (hBR.block ia (by omega))).trans u3; have i4 := (World.cell?_of_block (a := ⟨ia, io + 9, none⟩) (hBR.block ia (by omega))).trans u4; clear hX hF hBR k0 k1))
  have hfin : Hid (OpsPost P1 P2 R lo (.slice (some ⟨n + 12, 0, none⟩) 13 13) mv s1 s2 w (.returned .nilIface) X2) := by
    obtain ⟨-, g2, c2, m2, caps2, tv2, pv2, hR2, hp2, hc2, hq2, hF2, hL2⟩ := hXf.out
    have hF2' : FrT w2' X2 := ⟨hF2.size, hF2.block⟩
    exact ⟨rfl, g1, c1, m1, caps1, g2, c2, m2, caps2, tv2, pv2, hR2, hp1.out.keep hF2', hp2, hc1.out, hc2, hP1.out _ _ _ _ hq1.out hF2', hq2, hF1.out.trans hF2', fun B hB => (hL1.out B hB).trans (show Below B w2' X2 from ⟨(hL2 B hB).os, (hL2 B hB).tape, (hL2 B hB).output, (hL2 B hB).size, (hL2 B hB).block⟩)⟩
  clear z4 v0 v1 y2 u0 u1 u2 u3 u4 j0 j1 j4 i0 i1 i2 i3 i4 r0 k2 hXf hR1 hp1 hq1 hF1 hL1 HL1 hV2 HK1 hg2
  go_wp2_with fail
  rw [rounds_succ]
  go_wp2_with fail
  go_ret
  exact hfin.out
end Go.Proofs.YthgnkhpomhcdkaaGreatDoor
/-! update: the reader's filters, where there are none. -/
namespace Go.Proofs.YthgnkhpomhcdkaaGreatDoor
open Go Go.RowKit Dp

set_option maxHeartbeats 1000000 in
theorem names_plain (g c : Nat) (s : ByteArray) (h1 : 1 ≤ s.size) (h2 : Dp.byteAt s 0 ≠ 36) (w : World) (hc : w.cell? ⟨g, 0, none⟩ = some (.string s)) :
    Calls Tryz.prog 109 #[pathV g c] w fun e w' => e = .returned (.slice none 0 0) ∧ w' = w := by
  have hm := means_not s h1 h2
  replace h2 := hid_of h2
  go_enter Tryz.func109, Tryz.ntmps109
  go_wp2_with fail
  refine wp_loop_rounds 2 ?_
  rw [rounds_succ]
  go_wp2_with fail
  refine (hm _).mono ?_
  rintro e w1 ⟨rfl, rfl⟩
  go_wp2_with fail
  rw [rounds_succ]
  go_wp2_with fail
  go_ret
  exact ⟨rfl, rfl⟩
set_option maxHeartbeats 1000000 in
theorem none_of (f : Value) (w : World) :
    Calls Tryz.prog 108 #[.slice none 0 0, f] w fun e w' => e = .returned (.bool false) ∧ w' = w := by
  have hI : Calls Tryz.prog 158 #[.slice none 0 0, f] w fun e w' => e = .returned (.int .i64 (-1)) ∧ w' = w := by
    go_enter Tryz.func158, Tryz.ntmps158
    go_wp2_with fail
    refine wp_loop_rounds 1 ?_
    rw [rounds_succ]
    go_wp2_with fail
    go_ret
    exact ⟨rfl, rfl⟩
  go_enter Tryz.func108, Tryz.ntmps108
  go_wp2_with fail
  refine hI.mono ?_
  rintro e w1 ⟨rfl, rfl⟩
  go_wp2_with fail
  go_ret
  exact ⟨rfl, rfl⟩
set_option maxHeartbeats 4000000 in
set_option maxRecDepth 100000 in
theorem filters_none (R lo : Nat) (vs mv tv pv : Value) (tc : List Value) (g1 c1 g2 c2 : Nat) (s1 s2 : ByteArray) (h1 : 1 ≤ s1.size) (h2 : Dp.byteAt s1 0 ≠ 36) (h3 : 1 ≤ s2.size) (h4 : Dp.byteAt s2 0 ≠ 36) (w : World)
    (hR : RdAt w R lo vs mv tv pv tc [pathV g1 c1, pathV g2 c2]) (hp1 : PthAt w g1 s1) (hp2 : PthAt w g2 s2) :
    Calls Tryz.prog 57 #[.pointer (some ⟨R, 0, none⟩), .agg #[.int .i64 0, .int .i64 0, .string ⟨#[]⟩, .slice none 0 0, .slice none 0 0]] w fun e w' => e = .returned .nilIface ∧ Below w.heap.size w w' := by
  have hB2 : ∀ o1 o2, Below w.heap.size w ((w.alloc o1).alloc o2) := fun o1 o2 => ((Below.refl _ w).alloc (Nat.le_refl _) _).alloc (by simp) _
  obtain ⟨hxl, hx | ⟨gp, cap, cur, hpv, hge, hcur, hle, hmx, hsz, htk⟩⟩ := id hR.ps
  · exact absurd hx.2 (by simp)
  subst hpv
  have d0 : cur[0]? = some (pathV g1 c1) := by
    have := congrArg (fun l => l[0]?) htk
    simpa using this
  have d1 : cur[1]? = some (pathV g2 c2) := by
    have := congrArg (fun l => l[1]?) htk
    simpa using this
  have q0 := fun o1 o2 => (cell_of (block_keep hcur (hB2 o1 o2)) 0).trans d0
  have q1 := fun o1 o2 => (cell_of (block_keep hcur (hB2 o1 o2)) 1).trans d1
  have y2 := fun o1 o2 => ((hR.keep (hB2 o1 o2)).at 2).1
  have e1 := fun o1 o2 => names_plain g1 c1 s1 h1 h2 _ (hp1.keep (FrT.of (hB2 o1 o2))).cell
  have e2 := fun o1 o2 => names_plain g2 c2 s2 h3 h4 _ (hp2.keep (FrT.of (hB2 o1 o2))).cell
  have X0 := fun (o1 o2 : Obj) => (al_lt (by simp) (al_eq rfl) : ((w.alloc o1).alloc o2).heap[w.heap.size]? = some o1)
  have X1 := fun (o1 o2 : Obj) => (al_eq (by simp) : ((w.alloc o1).alloc o2).heap[w.heap.size + 1]? = some o2)
  have hb := hB2 (.cells #[.pointer (some ⟨R, 0, none⟩)] 92) (.cells #[.int .i64 0, .int .i64 0, .string ⟨#[]⟩, .slice none 0 0, .slice none 0 0] 28)
  replace q0 := q0 (.cells #[.pointer (some ⟨R, 0, none⟩)] 92) (.cells #[.int .i64 0, .int .i64 0, .string ⟨#[]⟩, .slice none 0 0, .slice none 0 0] 28)
  replace q1 := q1 (.cells #[.pointer (some ⟨R, 0, none⟩)] 92) (.cells #[.int .i64 0, .int .i64 0, .string ⟨#[]⟩, .slice none 0 0, .slice none 0 0] 28)
  replace y2 := y2 (.cells #[.pointer (some ⟨R, 0, none⟩)] 92) (.cells #[.int .i64 0, .int .i64 0, .string ⟨#[]⟩, .slice none 0 0, .slice none 0 0] 28)
  replace e1 := e1 (.cells #[.pointer (some ⟨R, 0, none⟩)] 92) (.cells #[.int .i64 0, .int .i64 0, .string ⟨#[]⟩, .slice none 0 0, .slice none 0 0] 28)
  replace e2 := e2 (.cells #[.pointer (some ⟨R, 0, none⟩)] 92) (.cells #[.int .i64 0, .int .i64 0, .string ⟨#[]⟩, .slice none 0 0, .slice none 0 0] 28)
  replace X0 := X0 (.cells #[.pointer (some ⟨R, 0, none⟩)] 92) (.cells #[.int .i64 0, .int .i64 0, .string ⟨#[]⟩, .slice none 0 0, .slice none 0 0] 28)
  replace X1 := X1 (.cells #[.pointer (some ⟨R, 0, none⟩)] 92) (.cells #[.int .i64 0, .int .i64 0, .string ⟨#[]⟩, .slice none 0 0, .slice none 0 0] 28)
  have r0 := cell_of X0 0
  obtain ⟨z0, z1, z2, z3, z4, -⟩ := row_cells X1
  simp only [List.getElem?_toArray, List.getElem?_cons_zero, List.getElem?_cons_succ, List.length_cons, List.length_nil, Nat.reduceAdd] at r0 y2
  replace hb := hid_of hb; replace e1 := hid_of e1; replace e2 := hid_of e2
  clear hR hp1 hp2 hcur hge hle hmx hsz htk hxl hB2 h1 h2 h3 h4 d0 d1 X0 X1
  go_enter Tryz.func57, Tryz.ntmps57
  go_wp2_with fail
  generalize (w.alloc (.cells #[.pointer (some ⟨R, 0, none⟩)] 92)).alloc (.cells #[.int .i64 0, .int .i64 0, .string ⟨#[]⟩, .slice none 0 0, .slice none 0 0] 28) = w1 at *
  refine wp_loop_rounds 1 ?_
  rw [rounds_succ]
  go_wp2_with fail
  refine wp_loop_rounds 3 ?_
  rw [rounds_succ]
  go_wp2_with fail
  refine e1.out.mono ?_
  rintro e w2 ⟨rfl, rfl⟩
  go_wp2_with fail
  refine (none_of _ _).mono ?_
  rintro e w3 ⟨rfl, rfl⟩
  go_wp2_with fail
  rw [rounds_succ]
  go_wp2_with fail
  refine e2.out.mono ?_
  rintro e w2 ⟨rfl, rfl⟩
  go_wp2_with fail
  refine (none_of _ _).mono ?_
  rintro e w3 ⟨rfl, rfl⟩
  go_wp2_with fail
  rw [rounds_succ]
  go_wp2_with fail
  go_ret
  exact ⟨rfl, hb.out⟩
end Go.Proofs.YthgnkhpomhcdkaaGreatDoor
/-! update: the reader's read. -/
namespace Go.Proofs.YthgnkhpomhcdkaaGreatDoor
open Go Go.RowKit Dp

abbrev nullV : Value := .agg #[.int .i64 0, .int .i64 0, .string ⟨#[]⟩, .slice none 0 0, .slice none 0 0]
theorem OpsPost.then {P1 P2 : World → Nat → Array Value → Prop} (hP1 : ∀ w w' m caps, P1 w m caps → FrT w w' → P1 w' m caps) (hP2 : ∀ w w' m caps, P2 w m caps → FrT w w' → P2 w' m caps) {R lo : Nat} {vs mv : Value} {s1 s2 : ByteArray} {w W w1 w2 : World} {e e' : Ending} (h : OpsPost P1 P2 R lo vs mv s1 s2 W e w1) (h0 : Below w.heap.size w W) (hR : R ≤ w.heap.size) (hb : Below w1.heap.size w1 w2) (he : e' = .returned .nilIface) : OpsPost P1 P2 R lo vs mv s1 s2 w e' w2 := by
  obtain ⟨-, g1, c1, m1, caps1, g2, c2, m2, caps2, tv, pv, a1, a2, a3, a4, a5, a6, a7, a8, a9⟩ := h
  have hf := FrT.of hb
  refine ⟨he, g1, c1, m1, caps1, g2, c2, m2, caps2, tv, pv, a1.keep hb, a2.keep hf, a3.keep hf, a4, a5, hP1 _ _ _ _ a6 hf, hP2 _ _ _ _ a7 hf, (FrT.of h0).trans (a8.trans hf), fun B hB => ?_⟩
  have h9 := a9 B hB
  have hw := h0.size
  have hx := h9.size
  exact (h0.mono (by omega)).trans (h9.trans (hb.mono (by omega)))
set_option maxHeartbeats 4000000 in
set_option maxRecDepth 100000 in
theorem read_any (P1 P2 : World → Nat → Array Value → Prop) (hP1 : ∀ w w' m caps, P1 w m caps → FrT w w' → P1 w' m caps) (hP2 : ∀ w w' m caps, P2 w m caps → FrT w w' → P2 w' m caps) (R lo : Nat) (vs mv : Value) (s1 s2 : ByteArray) (o : V5) (w : World)
    (h1 : 1 ≤ s1.size) (h2 : Dp.byteAt s1 0 ≠ 36) (h3 : 1 ≤ s2.size) (h4 : Dp.byteAt s2 0 ≠ 36) (hR : R ≤ w.heap.size)
    (hc1 : Hid (∀ W, Below w.heap.size w W → Calls Tryz.prog 55 #[o.v] W fun e w' => e = .returned (.int .i64 0) ∧ Below W.heap.size W w'))
    (hc2 : Hid (∀ W, Below w.heap.size w W → Calls Tryz.prog 55 #[nullV] W fun e w' => e = .returned (.int .i64 0) ∧ Below W.heap.size W w'))
    (hop : Hid (∀ W, Below w.heap.size w W → Calls Tryz.prog 56 #[.pointer (some ⟨R, 0, none⟩), o.v] W (OpsPost P1 P2 R lo vs mv s1 s2 W))) :
    Calls Tryz.prog 25 #[.pointer (some ⟨R, 0, none⟩), o.v, nullV] w (OpsPost P1 P2 R lo vs mv s1 s2 w) := by
  have hB2 : Below w.heap.size w ((w.alloc (o.obj 28)).alloc (.cells #[.int .i64 0, .int .i64 0, .string ⟨#[]⟩, .slice none 0 0, .slice none 0 0] 28)) := ((Below.refl _ w).alloc (Nat.le_refl _) _).alloc (by simp) _
  have X0 : ((w.alloc (o.obj 28)).alloc (.cells #[.int .i64 0, .int .i64 0, .string ⟨#[]⟩, .slice none 0 0, .slice none 0 0] 28)).heap[w.heap.size]? = some (o.obj 28) := al_lt (by simp) (al_eq rfl)
  have X1 : ((w.alloc (o.obj 28)).alloc (.cells #[.int .i64 0, .int .i64 0, .string ⟨#[]⟩, .slice none 0 0, .slice none 0 0] 28)).heap[w.heap.size + 1]? = some (.cells #[.int .i64 0, .int .i64 0, .string ⟨#[]⟩, .slice none 0 0, .slice none 0 0] 28) := al_eq (by simp)
  obtain ⟨z0, z1, z2, z3, z4⟩ := box_five X0 (Below.refl _ _)
  replace hP1 := hid_of hP1; replace hP2 := hid_of hP2
  unfold V5.v nullV at *
  unfold V5.obj at *
  replace hB2 := hid_of hB2; replace X0 := hid_of X0; replace X1 := hid_of X1
  replace h2 := hid_of h2; replace h4 := hid_of h4
  go_enter Tryz.func25, Tryz.ntmps25
  go_wp2_with fail
  generalize (w.alloc (.cells #[.int .i64 o.k, .int .i64 o.x, .string o.s, .slice o.an o.ln o.cn, .slice o.ai o.li o.ci] 28)).alloc (.cells #[.int .i64 0, .int .i64 0, .string ⟨#[]⟩, .slice none 0 0, .slice none 0 0] 28) = w0 at *
  refine (hc1.out w0 hB2.out).mono ?_
  rintro e w1 ⟨rfl, hb1⟩
  have HB1 := hid_of (hB2.out.trans (hb1.mono hB2.out.size))
  have C0 := hid_of (block_keep X0.out hb1)
  have C1 := hid_of (block_keep X1.out hb1)
  clear hb1 z0 z1 z2 z3 z4 hB2 X0 X1 hc1
  obtain ⟨z0, z1, z2, z3, z4, -⟩ := row_cells C1.out
  go_wp2_with fail
  refine (hc2.out w1 HB1.out).mono ?_
  rintro e w2 ⟨rfl, hb2⟩
  have HB2 := hid_of (HB1.out.trans (hb2.mono HB1.out.size))
  have D0 := hid_of (block_keep C0.out hb2)
  have D1 := hid_of (block_keep C1.out hb2)
  clear hb2 z0 z1 z2 z3 z4 HB1 C0 C1 hc2
  obtain ⟨z0, z1, z2, z3, z4, -⟩ := row_cells D0.out
  go_wp2_with fail
  refine (hop.out w2 HB2.out).mono ?_
  rintro e w3 hX
  obtain ⟨rfl, g1, c1, m1, caps1, g2, c2, m2, caps2, tv, pv, a1, a2, a3, a4, a5, a6, a7, a8, a9⟩ := id hX
  have E1 := a8.block _ _ D1.out (other_cells (by decide))
  have hfil := hid_of (filters_none R lo vs mv tv pv _ g1 c1 g2 c2 s1 s2 h1 h2.out h3 h4.out w3 a1 a2 a3)
  have HX := hid_of hX
  clear z0 z1 z2 z3 z4 D0 D1 hop hX a1 a2 a3 a4 a5 a6 a7 a8 a9
  obtain ⟨z0, z1, z2, z3, z4, -⟩ := row_cells E1
  replace E1 := hid_of E1
  go_wp2_with fail
  refine hfil.out.mono ?_
  rintro e w4 ⟨rfl, hb4⟩
  have hfin := hid_of (HX.out.then hP1.out hP2.out HB2.out hR hb4 rfl)
  clear z0 z1 z2 z3 z4 hfil E1 hb4 HX
  go_wp2_with fail
  go_ret
  exact hfin.out
end Go.Proofs.YthgnkhpomhcdkaaGreatDoor
