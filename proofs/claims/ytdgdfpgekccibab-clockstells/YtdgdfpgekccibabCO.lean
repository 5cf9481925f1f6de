import Derived.Test.YtdgdfpgekccibabCN
/-! clocks: a cell's users; the first use with which one races. -/
namespace Go.Proofs.Ytdgdfpgekccibab
open Go Go.RowKit
/-- A client with its uses of a cell. -/
structure Usr where
  c : Nat
  all : Uses
  wr : Uses
structure CellV (w : World) (cb : Nat) (us : List Usr) (P : Nat → Prop) (sv : Value) (xs : List Value) (va vw : Nat → Value) : Prop where
  box : w.heap[cb]? = some (.cells #[sv] 72 (0, 0))
  row : w.ownsRow 0 95 3 sv us.length xs
  cel : ∀ i u, us[i]? = some u → xs[i * 3]? = some (.int .i64 (u.c : Nat)) ∧ xs[i * 3 + 1]? = some (va i) ∧ xs[i * 3 + 2]? = some (vw i)
  ra : ∀ i u, us[i]? = some u → UseRow w (va i) u.all
  rv : ∀ i u, us[i]? = some u → UseRow w (vw i) u.wr
  pc : P cb
  ps : ∀ g, sv.ownBlock = some g → P g
  pa : ∀ i g, i < us.length → (va i).ownBlock = some g → P g
  pw : ∀ i g, i < us.length → (vw i).ownBlock = some g → P g
  da : ∀ i j g, i < us.length → j < us.length → (va i).ownBlock = some g → (va j).ownBlock = some g → i = j
  dw : ∀ i j g, i < us.length → j < us.length → (vw i).ownBlock = some g → (vw j).ownBlock = some g → i = j
  dd : ∀ i j g, i < us.length → j < us.length → (va i).ownBlock = some g → (vw j).ownBlock = some g → False
  lt : ∀ b, P b → b < w.heap.size
/-- A cell in memory, in the blocks P. -/
def CellAt (w : World) (cb : Nat) (us : List Usr) (P : Nat → Prop) : Prop := ∃ sv xs va vw, CellV w cb us P sv xs va vw
theorem CellV.keep {w w' : World} {cb : Nat} {us : List Usr} {P : Nat → Prop} {sv : Value} {xs : List Value} {va vw : Nat → Value} (h : CellV w cb us P sv xs va vw) (hs : w.heap.size ≤ w'.heap.size) (hk : ∀ b, P b → w'.heap[b]? = w.heap[b]?) : CellV w' cb us P sv xs va vw :=
  ⟨(hk _ h.pc).trans h.box, ownsRow_keep h.row (fun g hg => hk _ (h.ps g hg)), h.cel, fun i u hu => ownsRow_keep (h.ra i u hu) (fun g hg => hk _ (h.pa i g (List.getElem?_eq_some_iff.1 hu).1 hg)), fun i u hu => ownsRow_keep (h.rv i u hu) (fun g hg => hk _ (h.pw i g (List.getElem?_eq_some_iff.1 hu).1 hg)), h.pc, h.ps, h.pa, h.pw, h.da, h.dw, h.dd, fun b hb => Nat.lt_of_lt_of_le (h.lt b hb) hs⟩
theorem CellAt.keep {w w' : World} {cb : Nat} {us : List Usr} {P : Nat → Prop} (h : CellAt w cb us P) (hs : w.heap.size ≤ w'.heap.size) (hk : ∀ b, P b → w'.heap[b]? = w.heap[b]?) : CellAt w' cb us P := by
  obtain ⟨sv, xs, va, vw, h⟩ := h
  exact ⟨sv, xs, va, vw, h.keep hs hk⟩
theorem CellAt.lt {w : World} {cb : Nat} {us : List Usr} {P : Nat → Prop} (h : CellAt w cb us P) : ∀ b, P b → b < w.heap.size := by
  obtain ⟨sv, xs, va, vw, h⟩ := h
  exact h.lt
theorem CellV.below {w w' : World} {cb : Nat} {us : List Usr} {P : Nat → Prop} {sv : Value} {xs : List Value} {va vw : Nat → Value} (h : CellV w cb us P sv xs va vw) (hb : Below w.heap.size w w') : CellV w' cb us P sv xs va vw := h.keep hb.size (fun b hb' => hb.block b (h.lt b hb'))
/-- Users as the code keeps them. -/
structure OkU (us : List Usr) : Prop where
  c : ∀ u ∈ us, u.c < 16
  ra : ∀ u ∈ us, Rise u.all
  rw : ∀ u ∈ us, Rise u.wr
  la : ∀ u ∈ us, u.all.length ≤ 1048576
  lw : ∀ u ∈ us, u.wr.length ≤ 1048576
def lessO (acc : Option Nat) (i : Nat) : Option Nat := match acc with
  | none => some i
  | some f => if i < f then some i else some f
def mergeO (acc : Option Nat) : Option Nat → Option Nat
  | some i => lessO acc i
  | none => acc
def apartStep (now : Clk) (wr : Bool) (acc : Option Nat) (u : Usr) : Option Nat := mergeO acc (firstU (if wr then u.all else u.wr) (now u.c))
/-- The first event of those uses with which a use at that clock races. -/
def apartU (us : List Usr) (now : Clk) (wr : Bool) : Option Nat := us.foldl (apartStep now wr) none
theorem apart_take {us : List Usr} {k : Nat} {u : Usr} (h : us[k]? = some u) (now : Clk) (wb : Bool) : apartU (us.take (k + 1)) now wb = apartStep now wb (apartU (us.take k) now wb) u := by
  obtain ⟨hk, rfl⟩ := List.getElem?_eq_some_iff.1 h
  unfold apartU
  rw [List.take_succ_eq_append_getElem hk, List.foldl_append]
  rfl
def fstV : Option Nat → Value
  | some e => .int .i64 (e : Nat)
  | none => .int .i64 0
theorem user_i : (Try.prog.info? 95).map (fun i => (i.zero, i.size, i.bytes)) = some (some (.agg #[.int .i64 0, .slice none 0 0, .slice none 0 0]), 3, 56) := by kernel_rfl
set_option maxHeartbeats 4000000 in
set_option maxRecDepth 100000 in
theorem apart_any (cb : Nat) (us : List Usr) (P : Nat → Prop) (now : Clk) (wb : Bool) (w : World) (hC : CellAt w cb us P) (hO : OkU us) (hn : us.length ≤ 1048576) :
    Calls Try.prog 27 #[.pointer (some ⟨cb, 0, none⟩), .agg (ck now).toArray, .bool wb] w fun e w' => e = .returned (unkV (apartU us now wb)) ∧ Below w.heap.size w w' := by
  obtain ⟨sv, xs, va, vw, hV⟩ := hC
  obtain ⟨a, cap, rfl, hc, hm, hg⟩ := ownsRow_form hV.row
  obtain ⟨W0, hW0⟩ : ∃ W0, Hid (w.alloc (.cells (ck now).toArray 49) = W0) := ⟨_, rfl⟩
  have hB0 : Below w.heap.size w W0 := by rw [← hW0.out]; exact (Below.refl _ w).alloc (Nat.le_refl _) _
  have z0 : W0.heap[w.heap.size]? = some (.cells (ck now).toArray 49 (0, 0)) := by rw [← hW0.out]; exact heap_alloc_new w _
  have hV0 := hV.below hB0
  have y0 : W0.cell? ⟨cb, 0, none⟩ = some (.slice a us.length cap) := by simp [World.cell?, hV0.box]
  replace hV0 := hid_of hV0
  replace hO := hid_of hO
  replace z0 := hid_of z0
  unfold maxLen at hm
  clear hV
  obtain ⟨R, hR⟩ : ∃ R, Hid (unkV (apartU us now wb) = R) := ⟨_, rfl⟩
  rw [hR.out]
  go_enter Try.func27, Try.ntmps27
  go_wp2_with (rw [hW0.out])
  clear hW0 y0
  go_loopw [6, 7, 18] (fun f t i wr => ∃ k : Nat, k ≤ us.length ∧ i = .int .i64 k ∧ f = fstV (apartU (us.take k) now wb) ∧ t = .bool (apartU (us.take k) now wb).isSome ∧ Below W0.heap.size W0 wr ∧ Below w.heap.size w wr) (fun _ _ i _ => us.length - (intOf i).toNat)
  case atStart => exact ⟨0, by omega, rfl, rfl, rfl, Below.refl _ _, hB0⟩
  case round =>
    obtain ⟨k, hk, rfl, rfl, rfl, hB, hBw⟩ := hrel
    by_cases hlt : k < us.length
    · obtain ⟨u, hu⟩ : ∃ u, Hid (us[k]? = some u) := ⟨_, List.getElem?_eq_getElem hlt⟩
      have hmem := List.mem_of_getElem? hu.out
      have hV1 := hV0.out.below hB
      obtain ⟨g, rfl⟩ := hg (by omega)
      obtain ⟨e0, e1, e2⟩ := hV1.cel k u hu.out
      have q0 := ownsRow_cell hV1.row e0
      have q1 := ownsRow_cell hV1.row e1
      have q2 := ownsRow_cell hV1.row e2
      have hstep := hid_of (apart_take hu.out now wb)
      have hc16 := hO.out.c u hmem
      obtain ⟨a1, cp1, hva, -, -, -⟩ := ownsRow_form (hV1.ra k u hu.out)
      obtain ⟨a2, cp2, hvw, -, -, -⟩ := ownsRow_form (hV1.rv k u hu.out)
      have ra := hV1.ra k u hu.out
      have rv := hV1.rv k u hu.out
      rw [hva] at q1 ra
      rw [hvw] at q2 rv
      obtain ⟨Y1, hY1⟩ : ∃ Y1, Hid (wr.alloc (.cells #[.int .i64 (u.c : Nat), .slice a1 u.all.length cp1, .slice a2 u.wr.length cp2] 95) = Y1) := ⟨_, rfl⟩
      have hB1 : Below wr.heap.size wr Y1 := by rw [← hY1.out]; exact (Below.refl _ wr).alloc (Nat.le_refl _) _
      have x1 : Y1.heap[wr.heap.size]? = some (.cells #[.int .i64 (u.c : Nat), .slice a1 u.all.length cp1, .slice a2 u.wr.length cp2] 95 (0, 0)) := by rw [← hY1.out]; exact heap_alloc_new wr _
      obtain ⟨p0, p1, p2⟩ := cells3 x1
      have hbt := hB.trans (hB1.mono hB.size)
      have hbw := hBw.trans (hB1.mono hBw.size)
      have hnow : Y1.cell? ⟨w.heap.size, u.c, none⟩ = some (.int .i32 (now u.c : Nat)) := by
        have := (grid_one ((hbt.block _ (Array.getElem?_eq_some_iff.1 z0.out).1).trans z0.out)).cell (c := 0) (by decide) hc16
        simpa using this
      have kr : ∀ v l, UseRow wr v l → UseRow Y1 v l := fun v l h => ownsRow_keep h (fun g hg => by
        obtain ⟨h1, h2⟩ := h
        rcases h2 with ⟨hv, _⟩ | ⟨g', cap', cur, hv, _, hh, r⟩
        · rw [hv] at hg; cases hg
        · rw [hv] at hg
          cases hg
          exact hB1.block _ (Array.getElem?_eq_some_iff.1 hh).1)
      obtain ⟨ku, hku⟩ : ∃ ku, Hid (now u.c = ku) := ⟨_, rfl⟩
      rw [hku.out] at hnow
      have hua := hid_of (unknown_any _ u.all ku Y1 (kr _ _ ra) (hO.out.ra u hmem) (hO.out.la u hmem))
      have huw := hid_of (unknown_any _ u.wr ku Y1 (kr _ _ rv) (hO.out.rw u hmem) (hO.out.lw u hmem))
      replace hbt := hid_of hbt
      replace hbw := hid_of hbw
      clear hV1 e0 e1 e2 hva hvw ra rv hB1 x1 kr hB hBw hmem
      obtain ⟨acc, hacc⟩ : ∃ acc, Hid (apartU (us.take k) now wb = acc) := ⟨_, rfl⟩
      rw [hacc.out] at hstep ⊢
      obtain ⟨fu, hfu⟩ : ∃ fu, Hid (firstU (if wb then u.all else u.wr) ku = fu) := ⟨_, rfl⟩
      have hcall : Hid (Calls Try.prog 42 #[if wb then .slice a1 u.all.length cp1 else .slice a2 u.wr.length cp2, .int .i32 (ku : Nat)] Y1 fun e w' => e = .returned (unkV fu) ∧ Below Y1.heap.size Y1 w') := by
        unfold Hid
        cases wb
        · have := huw.out; simp at hfu ⊢; rw [← hfu.out]; exact this
        · have := hua.out; simp at hfu ⊢; rw [← hfu.out]; exact this
      have hst2 : Hid (apartU (us.take (k + 1)) now wb = mergeO acc fu) := by
        unfold Hid
        rw [hstep.out]
        unfold apartStep
        rw [hku.out, hfu.out]
      clear hstep hua huw hfu
      have hrel' : ∀ w2, Below Y1.heap.size Y1 w2 → Below W0.heap.size W0 w2 ∧ Below w.heap.size w w2 := fun w2 h2 => ⟨hbt.out.trans (h2.mono hbt.out.size), hbw.out.trans (h2.mono hbw.out.size)⟩
      replace hrel' := hid_of hrel'
      cases wb with
      | false =>
        simp only [Bool.false_eq_true, if_false] at hcall
        go_wp2_with (rw [hY1.out])
        refine hcall.out.mono ?_
        rintro e Y2 ⟨rfl, hb2⟩
        obtain ⟨r1, r2⟩ := hrel'.out Y2 hb2
        replace r1 := hid_of r1
        replace r2 := hid_of r2
        clear hcall hrel' hb2
        cases fu with
        | none =>
          unfold unkV
          go_wp2_with fail
          go_roundw
          case rel => exact ⟨k + 1, by omega, by go_num, by rw [hst2.out]; rfl, by rw [hst2.out]; rfl, r1.out, r2.out⟩
          case measure => simp [intOf]; omega
        | some i =>
          unfold unkV
          cases acc with
          | none =>
            unfold fstV
            go_wp2_with fail
            go_roundw
            case rel => exact ⟨k + 1, by omega, by go_num, by rw [hst2.out]; rfl, by rw [hst2.out]; rfl, r1.out, r2.out⟩
            case measure => simp [intOf]; omega
          | some f0 =>
            unfold fstV
            by_cases hif : i < f0
            · have hif' : ((i : Nat) : Int) < ((f0 : Nat) : Int) := by omega
              have hme : Hid (mergeO (some f0) (some i) = some i) := by simp [Hid, mergeO, lessO, hif]
              go_wp2_with fail
              go_roundw
              case rel => exact ⟨k + 1, by omega, by go_num, by rw [hst2.out, hme.out]; rfl, by rw [hst2.out, hme.out]; rfl, r1.out, r2.out⟩
              case measure => simp [intOf]; omega
            · have hif' : ¬ ((i : Nat) : Int) < ((f0 : Nat) : Int) := by omega
              have hme : Hid (mergeO (some f0) (some i) = some f0) := by simp [Hid, mergeO, lessO, hif]
              go_wp2_with fail
              go_roundw
              case rel => exact ⟨k + 1, by omega, by go_num, by rw [hst2.out, hme.out]; rfl, by rw [hst2.out, hme.out]; rfl, r1.out, r2.out⟩
              case measure => simp [intOf]; omega
      | true =>
        simp only [if_true] at hcall
        go_wp2_with (rw [hY1.out])
        refine hcall.out.mono ?_
        rintro e Y2 ⟨rfl, hb2⟩
        obtain ⟨r1, r2⟩ := hrel'.out Y2 hb2
        replace r1 := hid_of r1
        replace r2 := hid_of r2
        clear hcall hrel' hb2
        cases fu with
        | none =>
          unfold unkV
          go_wp2_with fail
          go_roundw
          case rel => exact ⟨k + 1, by omega, by go_num, by rw [hst2.out]; rfl, by rw [hst2.out]; rfl, r1.out, r2.out⟩
          case measure => simp [intOf]; omega
        | some i =>
          unfold unkV
          cases acc with
          | none =>
            unfold fstV
            go_wp2_with fail
            go_roundw
            case rel => exact ⟨k + 1, by omega, by go_num, by rw [hst2.out]; rfl, by rw [hst2.out]; rfl, r1.out, r2.out⟩
            case measure => simp [intOf]; omega
          | some f0 =>
            unfold fstV
            by_cases hif : i < f0
            · have hif' : ((i : Nat) : Int) < ((f0 : Nat) : Int) := by omega
              have hme : Hid (mergeO (some f0) (some i) = some i) := by simp [Hid, mergeO, lessO, hif]
              go_wp2_with fail
              go_roundw
              case rel => exact ⟨k + 1, by omega, by go_num, by rw [hst2.out, hme.out]; rfl, by rw [hst2.out, hme.out]; rfl, r1.out, r2.out⟩
              case measure => simp [intOf]; omega
            · have hif' : ¬ ((i : Nat) : Int) < ((f0 : Nat) : Int) := by omega
              have hme : Hid (mergeO (some f0) (some i) = some f0) := by simp [Hid, mergeO, lessO, hif]
              go_wp2_with fail
              go_roundw
              case rel => exact ⟨k + 1, by omega, by go_num, by rw [hst2.out, hme.out]; rfl, by rw [hst2.out, hme.out]; rfl, r1.out, r2.out⟩
              case measure => simp [intOf]; omega
    · obtain rfl : k = us.length := by omega
      rw [List.take_length] at *
      obtain ⟨acc, hacc⟩ : ∃ acc, Hid (apartU us now wb = acc) := ⟨_, rfl⟩
      rw [hacc.out] at hR ⊢
      have hB' := hid_of hBw
      clear hB hBw
      go_wp2_with fail
      go_ret2
      refine ⟨?_, hB'.out⟩
      rw [← hR.out]
      cases acc <;> rfl
end Go.Proofs.Ytdgdfpgekccibab
