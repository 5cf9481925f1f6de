import Derived.Test.YthgnkhpomhcdkaaGreatDoorNJ
import Derived.Carry
/-! update: Parse. -/
namespace Go.Proofs.YthgnkhpomhcdkaaGreatDoor
open Go Go.RowKit Dp

/-- The update at block b: two terms of one segment each. -/
structure UpAt (P1 P2 : World → Nat → Array Value → Prop) (w : World) (b lo g1 c1 m1 g2 c2 m2 : Nat) (caps1 caps2 : Array Value) (tv mv : Value) (s1 s2 : ByteArray) : Prop where
  box : w.heap[b]? = some (.cells #[tv, mv] 53)
  ts : w.ownsRow lo 55 1 tv 2 [termV g1 c1 (.func (.func m1) #[] caps1), termV g2 c2 (.func (.func m2) #[] caps2)]
  p1 : PthAt w g1 s1
  p2 : PthAt w g2 s2
  r1 : 1 ≤ c1 ∧ c1 ≤ 17
  r2 : 1 ≤ c2 ∧ c2 ≤ 17
  d1 : P1 w m1 caps1
  d2 : P2 w m2 caps2
set_option maxHeartbeats 4000000 in
set_option maxRecDepth 100000 in
theorem parse_any2 (P1 P2 : World → Nat → Array Value → Prop) (hP1 : ∀ w w' m caps, P1 w m caps → FrT w w' → P1 w' m caps) (hP2 : ∀ w w' m caps, P2 w m caps → FrT w w' → P2 w' m caps) (s1 s2 : ByteArray) (o : V5) (w : World)
    (hrd : Hid (∀ W R n mv, Below w.heap.size w W → RdAt W R (R + 1) (.slice (some ⟨n + 12, 0, none⟩) 13 13) mv (.slice none 0 0) (.slice none 0 0) [] [] → VerbsAt W n → w.heap.size < R → Calls Tryz.prog 25 #[.pointer (some ⟨R, 0, none⟩), o.v, nullV] W (OpsPost P1 P2 R (R + 1) (.slice (some ⟨n + 12, 0, none⟩) 13 13) mv s1 s2 W))) :
    Calls Tryz.prog 16 #[o.v, nullV] w fun e w' => Below w.heap.size w w' ∧ ∃ b lo g1 c1 m1 g2 c2 m2 caps1 caps2 tv mv, e = .returned (.tuple #[.pointer (some ⟨b, 0, none⟩), .int .i64 0, .int .i64 0]) ∧ UpAt P1 P2 w' b lo g1 c1 m1 g2 c2 m2 caps1 caps2 tv mv s1 s2 := by
  have hB2 : Below w.heap.size w ((w.alloc (o.obj 28)).alloc (.cells #[.int .i64 0, .int .i64 0, .string ⟨#[]⟩, .slice none 0 0, .slice none 0 0] 28)) := ((Below.refl _ w).alloc (Nat.le_refl _) _).alloc (by simp) _
  have X0 : ((w.alloc (o.obj 28)).alloc (.cells #[.int .i64 0, .int .i64 0, .string ⟨#[]⟩, .slice none 0 0, .slice none 0 0] 28)).heap[w.heap.size]? = some (o.obj 28) := al_lt (by simp) (al_eq rfl)
  have X1 : ((w.alloc (o.obj 28)).alloc (.cells #[.int .i64 0, .int .i64 0, .string ⟨#[]⟩, .slice none 0 0, .slice none 0 0] 28)).heap[w.heap.size + 1]? = some (.cells #[.int .i64 0, .int .i64 0, .string ⟨#[]⟩, .slice none 0 0, .slice none 0 0] 28) := al_eq (by simp)
  have hsz : w.heap.size < ((w.alloc (o.obj 28)).alloc (.cells #[.int .i64 0, .int .i64 0, .string ⟨#[]⟩, .slice none 0 0, .slice none 0 0] 28)).heap.size := by simp; omega
  have hmm := @run_makeMap Tryz.prog
  replace hP1 := hid_of hP1; replace hP2 := hid_of hP2
  unfold V5.v nullV at *
  unfold V5.obj at *
  replace hB2 := hid_of hB2; replace X0 := hid_of X0; replace X1 := hid_of X1
  go_enter Tryz.func16, Tryz.ntmps16
  go_wp2_with fail
  generalize (w.alloc (.cells #[.int .i64 o.k, .int .i64 o.x, .string o.s, .slice o.an o.ln o.cn, .slice o.ai o.li o.ci] 28)).alloc (.cells #[.int .i64 0, .int .i64 0, .string ⟨#[]⟩, .slice none 0 0, .slice none 0 0] 28) = w0 at *
  refine (verbs_any w0).mono ?_
  rintro e w1 ⟨hb1, rfl, hV⟩
  have HB1 := hid_of (hB2.out.trans (hb1.mono hB2.out.size))
  have hs1 := hb1.size
  have C0 := hid_of (block_keep X0.out hb1)
  have C1 := hid_of (block_keep X1.out hb1)
  have hb3 : Below w1.heap.size w1 ((w1.alloc (.map #[] 0)).alloc (.cells #[.slice (some ⟨w0.heap.size + 12, 0, none⟩) 13 13, .slice none 0 0, .slice none 0 0, .map (some w1.heap.size)] 63)) := ((Below.refl _ w1).alloc (Nat.le_refl _) _).alloc (by simp) _
  have Z0 : ((w1.alloc (.map #[] 0)).alloc (.cells #[.slice (some ⟨w0.heap.size + 12, 0, none⟩) 13 13, .slice none 0 0, .slice none 0 0, .map (some w1.heap.size)] 63)).heap[w1.heap.size + 1]? = some (.cells #[.slice (some ⟨w0.heap.size + 12, 0, none⟩) 13 13, .slice none 0 0, .slice none 0 0, .map (some w1.heap.size)] 63) := al_eq (by simp)
  have hRd : RdAt ((w1.alloc (.map #[] 0)).alloc (.cells #[.slice (some ⟨w0.heap.size + 12, 0, none⟩) 13 13, .slice none 0 0, .slice none 0 0, .map (some w1.heap.size)] 63)) (w1.heap.size + 1) (w1.heap.size + 1 + 1) (.slice (some ⟨w0.heap.size + 12, 0, none⟩) 13 13) (.map (some w1.heap.size)) (.slice none 0 0) (.slice none 0 0) [] [] :=
    ⟨Z0, World.ownsRow_nil _ _ _ _, World.ownsRow_nil _ _ _ _, by omega, by simp⟩
  obtain ⟨z0, z1, z2, z3, z4, -⟩ := row_cells (block_keep C0.out hb3)
  obtain ⟨x0, x1, x2, x3, x4, -⟩ := row_cells (block_keep C1.out hb3)
  have hcall := hid_of (hrd.out _ _ _ _ (HB1.out.trans (hb3.mono HB1.out.size)) hRd (hV.keepT (FrT.of hb3)) (by have := HB1.out.size; omega))
  have HB3 := hid_of (HB1.out.trans (hb3.mono HB1.out.size))
  have hRw : w.heap.size ≤ w1.heap.size + 1 := by have := HB1.out.size; omega
  clear hb1 hB2 X0 X1 hV hRd hb3 Z0 hrd C0 C1
  go_wp2_with fail
  refine hcall.out.mono ?_
  rintro e w3 ⟨rfl, g1, c1, m1, caps1, g2, c2, m2, caps2, tv, pv, a1, a2, a3, a4, a5, a6, a7, a8, a9⟩
  have HB4 := hid_of (HB3.out.trans (a9 _ hRw))
  obtain ⟨ta, tcp, htv⟩ := ownsRow_slice a1.ts
  simp only [List.length_cons, List.length_nil, Nat.reduceAdd] at htv
  subst htv
  have y1 := (a1.at 1).1
  have y3 := (a1.at 3).1
  simp only [List.getElem?_toArray, List.getElem?_cons_zero, List.getElem?_cons_succ] at y1 y3
  replace a1 := hid_of a1; replace a2 := hid_of a2; replace a3 := hid_of a3; replace a4 := hid_of a4; replace a5 := hid_of a5; replace a6 := hid_of a6; replace a7 := hid_of a7
  clear z0 z1 z2 z3 z4 x0 x1 x2 x3 x4 hcall a8 a9 HB3 HB1
  generalize w1.heap.size + 1 = R at *
  go_wp2_with fail
  go_ret3
  have hb5 : Below w3.heap.size w3 (w3.alloc (.cells #[(.slice ta 2 tcp), .map (some w1.heap.size)] 53)) := (Below.refl _ w3).alloc (Nat.le_refl _) _
  exact ⟨HB4.out.trans (hb5.mono HB4.out.size), w3.heap.size, R + 1, g1, c1, m1, g2, c2, m2, caps1, caps2, _, _, rfl, heap_alloc_new w3 _, ownsRow_below a1.out.ts hb5, a2.out.keep (FrT.of hb5), a3.out.keep (FrT.of hb5), a4.out, a5.out, hP1.out _ _ _ _ a6.out (FrT.of hb5), hP2.out _ _ _ _ a7.out (FrT.of hb5)⟩
end Go.Proofs.YthgnkhpomhcdkaaGreatDoor
