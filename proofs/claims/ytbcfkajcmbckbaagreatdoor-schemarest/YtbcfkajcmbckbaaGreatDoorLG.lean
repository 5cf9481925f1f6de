import Derived.Test.YtbcfkajcmbckbaaGreatDoorLE
import Derived.Test.YtbcfkajcmbckbaaGreatDoorLP
/-! schema: the path of a place of at most 8 steps: some list of texts. -/
namespace Go.Proofs.YtbcfkajcmbckbaaGreatDoor
open Go Go.RowKit

def SomeRow (e : Ending) : Prop := ∃ a n c, e = .returned (.slice a n c)
theorem SomeRow.of (a : Option Addr) (n c : Nat) : SomeRow (.returned (.slice a n c)) := ⟨a, n, c, rfl⟩
/-- The steps so far. -/
structure Stp (w wr : World) (q : Nat) (a : Option Addr) (n c : Nat) (ss : List ByteArray) : Prop where
  bel : Below w.heap.size w wr
  row : Rw wr w.heap.size 1 a n c (strs ss)
  len : ss.length = n
  le : n + q ≤ 8
  own : ∀ b, blkOf a b → w.heap.size ≤ b
def lenOf : Value → Nat
  | .slice _ n _ => n
  | _ => 0
theorem Stp.rev {w wr : World} {q : Nat} {a : Option Addr} {n c : Nat} {ss : List ByteArray} (h : Stp w wr q a n c ss) :
    Calls Tryz.prog 48 #[.slice a n c] wr fun e w' => e = .returned (.tuple #[]) ∧ Below w.heap.size w w' := by
  by_cases hn : n = 0
  · subst hn
    refine (reverse_nil a c wr).mono ?_
    rintro e w' ⟨rfl, rfl⟩
    exact ⟨rfl, h.bel⟩
  · rcases h.row.pt with h0 | ⟨b, o, rfl, h1, h2, h3, h4⟩
    · have := h.row.le
      omega
    · refine (reverse_few b o n c wr (by have := h.le; omega) (fun q hq => ?_)).mono ?_
      · have hc := h.row.le
        obtain ⟨s, hs⟩ : ∃ s, ss[q]? = some s := ⟨_, List.getElem?_eq_getElem (by have := h.len; omega)⟩
        exact ⟨⟨s, h4 q _ (by unfold strs; rw [List.getElem?_map, hs]; rfl)⟩, (h3 q (by omega)).2⟩
      · rintro e w' ⟨rfl, hF⟩
        exact ⟨rfl, h.bel.trans (hF.below h.bel.size (fun i hi => by subst hi; exact h1))⟩
theorem Stp.next {w wr X W3 : World} {q : Nat} {a : Option Addr} {n c : Nat} {ss : List ByteArray} (h : Stp w wr (q + 1) a n c ss) (s : ByteArray) (hb : Below wr.heap.size wr X) {xs : List Value} (hx : xs = [.string s]) {g o2 c2 : Nat} (hA : Appd X w.heap.size 1 a n 1 c (strs ss ++ xs) g o2 c2 W3) : Stp w W3 q (some ⟨g, o2, none⟩) (n + 1) c2 (ss ++ [s]) := by
  subst hx
  have hbX : Below w.heap.size w X := h.bel.trans (hb.mono h.bel.size)
  refine ⟨hbX.trans (hA.fr.below hbX.size (fun i hi => h.own i hi.1)), by rw [show strs (ss ++ [s]) = strs ss ++ [.string s] by unfold strs; simp]; exact hA.row, by simp [h.len], by have := h.le; omega, fun b hb' => ?_⟩
  obtain ⟨o, sp, e⟩ := hb'
  injection e with e
  injection e with e1 e2 e3
  subst e1
  rcases hA.at' with ⟨e, -, -⟩ | ⟨e, -, -⟩
  · exact h.own g ⟨_, _, e⟩
  · rw [e]; exact hbX.size
set_option maxHeartbeats 4000000 in
set_option maxRecDepth 100000 in
theorem path_any (m : Nat) (pv : Value) (w : World) (hm : m ≤ 8) (hP : PlcAt w m pv) :
    Calls Tryz.prog 25 #[pv] w fun e w' => SomeRow e ∧ Below w.heap.size w w' := by
  obtain ⟨ri, hri, hri1, hri2, hri3⟩ := info_parts A9
  have h0 : Hid (Stp w w m none 0 0 []) := ⟨Below.refl _ w, Rw.nil w w.heap.size 1 none, rfl, by omega, fun b hb => by obtain ⟨o, s, e⟩ := hb; cases e⟩
  replace hP := hid_of hP
  go_enter Tryz.func25, Tryz.ntmps25
  go_wp2_with fail
  go_loopw [0, 3] (fun pp sv wr => ∃ (q : Nat) (a : Option Addr) (n c : Nat) (ss : List ByteArray), sv = .slice a n c ∧ Hid (PlcAt w q pp) ∧ Hid (q ≤ 8) ∧ Hid (Stp w wr q a n c ss)) (fun _ sv _ => 9 - lenOf sv)
  case atStart => exact ⟨m, none, 0, 0, [], rfl, hP, hm, h0⟩
  case round =>
    obtain ⟨q, a, n, c, ss, rfl, hq, hq8, hS⟩ := hrel
    cases q with
    | zero =>
      obtain rfl : _ = Value.pointer none := hq.out
      have hr := hid_of hS.out.rev
      clear hS hq hq8 hP h0
      go_wp2_with fail
      refine hr.out.mono ?_
      rintro e W ⟨rfl, hb⟩
      replace hb := hid_of hb
      go_wp2_with fail
      go_ret
      exact ⟨SomeRow.of _ _ _, hb.out⟩
    | succ q =>
      obtain ⟨b, s, up, rfl, hb, hup⟩ := hq.out
      have hbr := block_keep hb hS.out.bel
      have y0 : wr.cell? ⟨b, 0, none⟩ = some up := cell_of hbr 0
      have y1 : wr.cell? ⟨b, 1, none⟩ = some (.string s) := cell_of hbr 1
      obtain ⟨o, rfl⟩ := hup.ptr
      replace hup := hid_of hup
      obtain ⟨X, hX⟩ : ∃ X, Hid (wr.alloc (.cells #[.string s] 9) = X) := ⟨_, rfl⟩
      have hBX : Hid (Below wr.heap.size wr X) := by rw [← hX.out]; exact (Below.refl _ wr).alloc (Nat.le_refl _) _
      have hsrc : Hid (Src Tryz.prog 1 22 (.slice (some ⟨wr.heap.size, 0, none⟩) 1 1) 1 [.string s] X) := by
        rw [← hX.out]
        exact Src.of_block Tryz.underlying22 (heap_alloc_new wr _) 1 1 rfl (fun u hu => by simp at hu; subst hu; rfl)
      have x0 := hid_of (hS.out.row.below hBX.out)
      have x6 : Hid (n + 1 ≤ maxLen ∧ (n + 1) * 16 ≤ 140737488355328 ∧ w.heap.size ≤ X.heap.size) := by
        have h1 := hS.out.le
        have h2 := hS.out.bel.size
        have h3 := hBX.out.size
        unfold maxLen
        exact ⟨by omega, by omega, by omega⟩
      have hfin : Hid (∀ g2 o2 c2 W3, Appd X w.heap.size 1 a n 1 c (strs ss ++ [.string s]) g2 o2 c2 W3 → Hid (Stp w W3 q (some ⟨g2, o2, none⟩) (n + 1) c2 (ss ++ [s])) ∧ Hid (W3.cell? ⟨b, 0, none⟩ = some (.pointer (o.map fun b => ⟨b, 0, none⟩)))) := fun g2 o2 c2 W3 hA => by
        have h1 := hS.out.next s hBX.out rfl hA
        exact ⟨h1, cell_of (block_keep hb h1.bel) 0⟩
      have hn8 : Hid (n + (q + 1) ≤ 8) := hS.out.le
      have hq7 : Hid (q ≤ 8) := by have := hq8.out; rw [Hid]; omega
      obtain ⟨U, hU⟩ : ∃ U, Hid (strs ss = U) := ⟨_, rfl⟩
      rw [hU.out] at x0 hfin
      clear hS hBX hb hbr h0 hP hq hq8
      go_wp2_with (first
        | rw [hX.out]
        | (at_builtin; go_must (refine wpList_append_rw X rfl _ _ 22 rfl 9 ri _ 1 16 Tryz.underlying22 hri hri1 hri2 hri3 rfl w.heap.size a n c U rfl x0.out.len x0.out.le x0.out.mx x0.out.rd _ rfl 1 [.string s] hsrc.out (fun _ => x0.out) (by decide) x6.out.1 x6.out.2.1 x6.out.2.2 ?_); intro g2 o2 c2 W3 hA; obtain ⟨hS3, hc3⟩ := hfin.out g2 o2 c2 W3 hA; replace hc3 := hc3.out; clear hA hsrc hfin x0 y0 y1))
      go_roundw
      case rel => exact ⟨q, _, _, _, _, rfl, hup, hq7, hS3⟩
      case measure =>
        have := hn8.out
        simp only [lenOf]
        omega
end Go.Proofs.YtbcfkajcmbckbaaGreatDoor
/-! schema: Fault of any schema and any value: broken just where it is not kept. -/
namespace Go.Proofs.YtbcfkajcmbckbaaGreatDoor
open Go Go.RowKit

/-- Some place, some word, and whether it is broken. -/
def Faulty (z : Bool) (e : Ending) : Prop := ∃ a n c s, e = .returned (.tuple #[.slice a n c, .string s, .bool (!z)])
theorem Faulty.of {z : Bool} (a : Option Addr) (n c : Nat) (s : ByteArray) {y : Bool} (h : y = !z) : Faulty z (.returned (.tuple #[.slice a n c, .string s, .bool y])) := ⟨a, n, c, s, by rw [h]⟩
/-- What caught tells. -/
structure CaughtZ (z : Bool) (pv : Value) (y : Bool) (w : World) : Prop where
  yes : y = !z
  at' : ∃ n, n ≤ 8 ∧ PlcAt w n pv
set_option maxHeartbeats 4000000 in
set_option maxRecDepth 100000 in
theorem fault_any (w0 : World) (hIt : ItoaIn w0) (t : Tr) (hg : GoodD 0 t) (hn : NamesT t) (hs : SmallT t) (x : Tr) (sb : Nat) (a : Option Addr) (c : Nat) (S : Nat → Prop) (u : V5) (w : World) (h0 : w.cell? ⟨sb, 0, none⟩ = some (.slice a t.items.length c)) (hR : RowR w0 (besideN t) w S a t.names t.items) (hB : Below w0.heap.size w0 w) (hV : VRep w x u.cs) (hS : SmallT x) :
    Calls Tryz.prog 15 #[.pointer (some ⟨sb, 0, none⟩), u.v] w fun e w' => Faulty (keepsT t x) e ∧ Below w.heap.size w w' := by
  have hb0 := (Below.refl _ w).alloc (Nat.le_refl _) (.cells #[.pointer (some ⟨sb, 0, none⟩)] 39)
  have hb1 := hid_of (hb0.alloc hb0.size (u.obj 25))
  have n1 := new1 w (.cells #[.pointer (some ⟨sb, 0, none⟩)] 39) (u.obj 25)
  have n2 := new2 w (.cells #[.pointer (some ⟨sb, 0, none⟩)] 39) (u.obj 25)
  obtain ⟨z, hz⟩ : ∃ z, Hid (keepsT t x = z) := ⟨_, rfl⟩
  have hk := hid_of (caught_any w.heap.size (w.heap.size + 1) z ((w.alloc (.cells #[.pointer (some ⟨sb, 0, none⟩)] 39)).alloc (u.obj 25)) (hid_of fun W hW => by
    have hBW := hb1.out.trans (hW.mono hb1.out.size)
    have hD : Below W.heap.size W W.drew := below_drew (Below.refl W.heap.size W)
    have hBD := hBW.trans (hD.mono hBW.size)
    have hq := seeksOk w0 hIt t 0 0 (Nat.le_refl _) hg hn hs x u W.drew a c S none (hR.later hBD) (hB.trans (hBD.mono hB.size)) (VRep.keep hBD _ _ hV) hS rfl
    rw [hz.out] at hq
    exact fault_call w.heap.size (w.heap.size + 1) sb a t.items.length c u z W hq (stay hBW h0) (stay hW (cell_of n1 0)) (block_keep n2 hW)))
  rw [hz.out]
  unfold V5.v
  unfold V5.obj at *
  clear n1 n2 hb0 hR hB hV hS h0
  go_enter Tryz.func15, Tryz.ntmps15
  go_wp2_with fail
  refine hk.out.mono ?_
  rintro e W ⟨hb, hzz⟩
  obtain ⟨pv, s, y, rfl, hC⟩ : ∃ pv s y, e = .returned (.tuple #[.agg #[pv, .string s], .bool y]) ∧ Hid (CaughtZ z pv y W) := by
    rcases hzz with ⟨h1, rfl⟩ | ⟨h1, n, pv, s, h8, rfl, hp⟩
    · exact ⟨_, _, _, rfl, ⟨by rw [h1]; rfl, 0, by omega, rfl⟩⟩
    · exact ⟨_, _, _, rfl, ⟨by rw [h1]; rfl, n, h8, hp⟩⟩
  have hBW := hid_of (hb1.out.trans (hb.mono hb1.out.size))
  have hB2 := hid_of (hBW.out.alloc hBW.out.size (.cells #[pv, .string s] 65))
  have kb := hid_of (heap_alloc_new W (.cells #[pv, .string s] 65))
  obtain ⟨n, h8, hp⟩ := hC.out.at'
  have hy := hid_of hC.out.yes
  have hp2 := hid_of (PlcAt.keep ((Below.refl _ W).alloc (Nat.le_refl _) (.cells #[pv, .string s] 65)) _ _ hp)
  obtain ⟨o, rfl⟩ := hp.ptr
  clear hk hb hzz hb1 hC hp hBW
  go_upto_region 4 with fail
  generalize W.alloc (.cells #[.pointer (o.map fun b => ⟨b, 0, none⟩), .string s] 65) = W2 at *
  have b0 : W2.drew.cell? ⟨W.heap.size, 0, none⟩ = some (.pointer (o.map fun b => ⟨b, 0, none⟩)) := cell_of kb.out 0
  have b1 : W2.drew.cell? ⟨W.heap.size, 1, none⟩ = some (.string s) := cell_of kb.out 1
  have hD2 := hid_of (below_drew (Below.refl W2.heap.size W2))
  have hpt := hid_of (path_any n (.pointer (o.map fun b => ⟨b, 0, none⟩)) W2.drew h8 (PlcAt.keep hD2.out _ _ hp2.out))
  have hB3 : Hid (Below w.heap.size w W2.drew) := below_drew hB2.out
  clear kb hp2 hB2 hD2
  go_region_held3 (fun V => V.cell? ⟨W.heap.size, 0, none⟩ = some (.pointer (o.map fun b => ⟨b, 0, none⟩)) ∧ V.cell? ⟨W.heap.size, 1, none⟩ = some (.string s)) (go_keep) (first
    | (go_at_call 25; refine hpt.out.mono ?_; rintro e W3 ⟨⟨g, m, k, rfl⟩, hb3⟩; have d0 := stay hb3 b0; have d1 := stay hb3 b1; have hB4 := hid_of (hB3.out.trans (hb3.mono hB3.out.size)); clear hb3 b0 b1))
  all_goals
    clear d0 d1 hpt
    go_wp2_with fail
    refine bodyPost_ret (v := .tuple #[.slice g m k, .string s, .bool y]) (by simp [results, Tryz.results15, go_sem]) rfl ?_
    exact ⟨Faulty.of _ _ _ _ hy.out, hB4.out⟩
end Go.Proofs.YtbcfkajcmbckbaaGreatDoor
