import Derived.Test.YtifmmodgagdjfaaDoorFA4
import Derived.Test.YtifmmodgagdjfaaDoorH1
import Derived.Test.YtifmmodgagdjfaaDoorT1
import Derived.Test.YtifmmodgagdjfaaDoorN1
import Derived.Laws.OwnMore
/-! The bytes of every value: the walk. -/
namespace Go.Proofs.YtifmmodgagdjfaaDoor
open Go Go.RowKit

/-- What string(..) makes of a row of bytes. -/
theorem conv_nil (w : World) : (convert 27 9 (.slice none 0 0)).run Tryd.prog w = .ok (.string ⟨#[]⟩) w := by
  rw [run_convert_bytes_string w 27 9 5 none 0 0 Tryd.underlying27 Tryd.underlying5 Tryd.underlying9]
  rfl
theorem conv_own {w : World} {lo : Nat} {v : Value} {l : List UInt8} (h : w.ownsRow lo 5 1 v l.length (Lib.byteCells l)) : (convert 27 9 v).run Tryd.prog w = .ok (.string ⟨l.toArray⟩) w := by
  rcases h.2 with ⟨rfl, h0⟩ | ⟨g, cap, cur, rfl, hg, hh, hc, hm, hs, hr⟩
  · obtain rfl : l = [] := List.eq_nil_of_length_eq_zero h0
    exact conv_nil w
  · refine run_convert_bytes_back w 27 9 5 ⟨g, 0, none⟩ cap l Tryd.underlying27 Tryd.underlying5 Tryd.underlying9 (fun j hj => ?_)
    rw [add_off, Nat.zero_add, World.ownsRow.cellAt h j (by omega)]
    simp [Lib.byteCells, hj]
/-- The value that was handed in, and its copy. -/
structure Pair (w : World) (b1 : Array Value) (g : Nat) (b2 : Array Value) (wx : World) : Prop where
  below : Below w.heap.size w wx
  one : wx.heap[w.heap.size]? = some (.cells b1 25 (0, 0))
  two : wx.heap[g]? = some (.cells b2 25 (0, 0))
theorem Pair.keep {w wx wy : World} {b1 b2 : Array Value} {g : Nat} (h : Pair w b1 g b2 wx) (hb : Below wx.heap.size wx wy) : Pair w b1 g b2 wy :=
  ⟨h.below.trans (hb.mono h.below.size), (hb.block _ (Array.getElem?_eq_some_iff.1 h.one).1).trans h.one, (hb.block _ (Array.getElem?_eq_some_iff.1 h.two).1).trans h.two⟩
/-- The bytes that Bytes tells. -/
def toldB (t : Tr) : List UInt8 := if checkT 0 t = 0 then keyT t else []
theorem BytesAt.own {w w' : World} {t : Tr} {kv : Value} (h : BytesAt w t kv w') : w'.ownsRow w.heap.size 5 1 kv (toldB t).length (Lib.byteCells (toldB t)) := by
  unfold toldB
  by_cases h0 : checkT 0 t = 0
  · rw [if_pos h0]; exact h.good h0
  · rw [if_neg h0, h.bad h0]; exact World.ownsRow_nil _ _ _ _
theorem bytes_set (l : List UInt8) (i : Nat) : (Lib.byteCells l).set i (.int .u8 238) = Lib.byteCells (l.set i 238) := by
  unfold Lib.byteCells
  rw [List.map_set]
  rfl
set_option maxHeartbeats 8000000 in
set_option maxRecDepth 100000 in
theorem bytes_true (k x : Int) (s : ByteArray) (an : Option Addr) (ln cn : Nat) (ai : Option Addr) (li ci : Nat) (t : Tr) (w : World) (hV : Hid (VRep w t (five k x s (.slice an ln cn) (.slice ai li ci)))) (hS : Hid (SmallT t)) (hR : Hid (RangeT t)) (hT : Hid (2 * (keyT t).length ≤ 100000000000)) (hU : Hid (Lib.Utf8Tabs 1 2 w)) (h8 : 3 ≤ w.heap.size) :
    Calls Tryd.prog 4 #[.agg #[.int .i64 k, .int .i64 x, .string s, .slice an ln cn, .slice ai li ci]] w fun e w' => e = .returned (.bool true) ∧ Below w.heap.size w w' := by
  have hlg := fun W (hW : Below w.heap.size w W) => hid_e (large_one k x s an ln cn ai li ci t W (hid_e (VRep.keep hW _ _ hV.out)))
  have hcp := fun W (hW : Below w.heap.size w W) => hid_e (copy_any t _ W (VRep.keep hW _ _ hV.out) hS.out)
  have hUW := fun W (hW : Below w.heap.size w W) => hid_e (utf_below hU.out hW h8)
  have h8W := fun W (hW : Below w.heap.size w W) => Nat.le_trans h8 hW.size
  have hlive := fun W (hW : Below w.heap.size w W) => hid_e (live_true W (utf_below hU.out hW h8) (Nat.le_trans h8 hW.size))
  have hby := fun W ka xa sa ana lna cna aia lia cia (hW : Below w.heap.size w W) (hv : VRep W t (five ka xa sa (.slice ana lna cna) (.slice aia lia cia))) => hid_e (bytes_code t ka xa sa ana lna cna aia lia cia W (hid_e hv) hS hR (hid_e (fun _ => hT.out)) (hUW W hW) (h8W W hW))
  have hrb := fun W (hW : Below w.heap.size w W) => hid_e (rbytes_code t k x s an ln cn ai li ci W (hid_e (VRep.keep hW _ _ hV.out)) hS hR (hid_e (fun _ => hT.out)))
  have heq := fun W cs (hW : Below w.heap.size w W) (hv : VRep W t cs) => hid_e (equal_any t t _ _ W hv (VRep.keep hW _ _ hV.out) hS.out)
  have hlen : Hid ((toldB t).length ≤ 50000000000) := by
    have h1 := hT.out
    rw [Hid]
    unfold toldB
    split
    · omega
    · simp
  clear hUW h8W hU
  obtain ⟨i5, hi5, hz0, hz1, hz2⟩ := info_parts Q5
  have n0 := heap_alloc_new w (.cells #[.int .i64 k, .int .i64 x, .string s, .slice an ln cn, .slice ai li ci] 25)
  have hB0 : Below w.heap.size w (w.alloc (.cells #[.int .i64 k, .int .i64 x, .string s, .slice an ln cn, .slice ai li ci] 25)) := (Below.refl _ _).alloc (Nat.le_refl _) _
  go_enter Tryd.func4, Tryd.ntmps4
  go_upto_region 1 with fail
  generalize w.alloc (.cells #[.int .i64 k, .int .i64 x, .string s, .slice an ln cn, .slice ai li ci] 25) = X0 at n0 hB0 ⊢
  obtain ⟨y0, y1, y2, y3, y4, -⟩ := row_cells n0
  go_wp2_with fail
  clear y0 y1 y2 y3 y4
  refine (hlg X0 hB0).out.mono ?_
  rintro e X1 ⟨⟨z, rfl⟩, hb⟩
  have n1 := (hb.block _ (Array.getElem?_eq_some_iff.1 n0).1).trans n0
  have hB1 := hB0.trans (hb.mono hB0.size)
  clear hb n0 hB0 hlg
  cases z
  rotate_left
  · go_wp2_with fail
    go_ret
    exact ⟨rfl, hB1⟩
  obtain ⟨y0, y1, y2, y3, y4, -⟩ := row_cells n1
  go_wp2_with fail
  clear y0 y1 y2 y3 y4
  refine (hcp _ hB1).out.mono ?_
  rintro e Y ⟨ka, xa, sa, ana, lna, cna, aia, lia, cia, rfl, hsa, hb⟩
  have hva := hsa.rep
  have hP : Pair w #[.int .i64 k, .int .i64 x, .string s, .slice an ln cn, .slice ai li ci] Y.heap.size #[.int .i64 ka, .int .i64 xa, .string sa, .slice ana lna cna, .slice aia lia cia] (Y.alloc (.cells #[.int .i64 ka, .int .i64 xa, .string sa, .slice ana lna cna, .slice aia lia cia] 25)) :=
    ⟨(hB1.trans (hb.mono hB1.size)).alloc (hB1.trans (hb.mono hB1.size)).size _, (alloc_old (Array.getElem?_eq_some_iff.1 ((hb.block _ (Array.getElem?_eq_some_iff.1 n1).1).trans n1)).1).trans ((hb.block _ (Array.getElem?_eq_some_iff.1 n1).1).trans n1), heap_alloc_new Y _⟩
  replace hva := hid_e (VRep.keep ((Below.refl _ Y).alloc (Nat.le_refl _) (.cells #[.int .i64 ka, .int .i64 xa, .string sa, .slice ana lna cna, .slice aia lia cia] 25)) _ _ hva)
  clear hsa hb n1 hB1 hcp
  go_upto_region 4 with fail
  generalize Y.alloc (.cells #[.int .i64 ka, .int .i64 xa, .string sa, .slice ana lna cna, .slice aia lia cia] 25) = W1 at hP hva ⊢
  obtain ⟨gc, hgc⟩ : ∃ g, Y.heap.size = g := ⟨_, rfl⟩
  rw [hgc] at hP
  rw [hgc]
  clear hgc
  obtain ⟨y0, y1, y2, y3, y4, -⟩ := row_cells hP.two
  go_wp2_with fail
  clear y0 y1 y2 y3 y4
  go_fit (hby W1 ka xa sa ana lna cna aia lia cia hP.below hva.out).out
  rintro e W2 ⟨v1, rfl, hA⟩
  have ho1 := hid_e hA.own
  have hlo1 : w.heap.size ≤ W1.heap.size := hP.below.size
  have hg1 : Hid (∀ g, v1.ownBlock = some g → w.heap.size ≤ g ∧ g < W2.heap.size) := fun g hg => ⟨Nat.le_trans hlo1 (ownsRow_ge ho1.out hg).1, (ownsRow_ge ho1.out hg).2⟩
  replace hva := hid_e (VRep.keep hA.below _ _ hva.out)
  replace hP := hP.keep hA.below
  obtain ⟨lo, hlo⟩ : ∃ z, W1.heap.size = z := ⟨_, rfl⟩
  rw [hlo] at ho1
  have hlow1 : lo ≤ W2.heap.size := by rw [← hlo]; exact hA.below.size
  clear hlo hlo1 hA
  obtain ⟨y0, y1, y2, y3, y4, -⟩ := row_cells hP.two
  go_upto_region 5 with fail
  go_wp2_with fail
  clear y0 y1 y2 y3 y4
  go_fit (hby W2 ka xa sa ana lna cna aia lia cia hP.below hva.out).out
  rintro e W3 ⟨v2, rfl, hA⟩
  have ho2 := hid_e hA.own
  replace ho1 := hid_e (ownsRow_below ho1.out hA.below)
  have hsz3 := hA.below.size
  have hn2 : Hid (v2.ownBlock = none ∨ v2.ownBlock ≠ v1.ownBlock) := by
    rw [Hid]
    cases hv2 : v2.ownBlock with
    | none => exact .inl rfl
    | some g =>
      refine .inr (fun e => ?_)
      have h1 := (ownsRow_ge ho2.out hv2).1
      have h2 := (hg1.out g e.symm).2
      omega
  replace hva := hid_e (VRep.keep hA.below _ _ hva.out)
  replace hP := hP.keep hA.below
  clear hA hby
  obtain ⟨y0, y1, y2, y3, y4, -⟩ := row_cells hP.one
  go_upto_region 6 with fail
  go_wp2_with fail
  clear y0 y1 y2 y3 y4
  go_fit (hrb W3 hP.below).out
  rintro e W4 ⟨v3, rfl, hA⟩
  have ho3 := hid_e hA.own
  replace ho1 := hid_e (ownsRow_below ho1.out hA.below)
  replace ho2 := hid_e (ownsRow_below ho2.out hA.below)
  have hn3 : Hid (v3.ownBlock = none ∨ v3.ownBlock ≠ v1.ownBlock) := by
    rw [Hid]
    cases hv3 : v3.ownBlock with
    | none => exact .inl rfl
    | some g =>
      refine .inr (fun e => ?_)
      have h1 := (ownsRow_ge ho3.out hv3).1
      have h2 := (hg1.out g e.symm).2
      omega
  replace hva := hid_e (VRep.keep hA.below _ _ hva.out)
  replace hP := hP.keep hA.below
  have hsz4 := hA.below.size
  clear hA hrb
  obtain ⟨c, hc⟩ : ∃ c, Hid (checkT 0 t = c) := ⟨_, hid_e rfl⟩
  rw [hc.out]
  obtain ⟨l, hl⟩ : ∃ l, Hid (toldB t = l) := ⟨_, hid_e rfl⟩
  rw [hl.out] at ho1 ho2 ho3 hlen
  clear hl hc
  have hcv1 := conv_own ho1.out
  have hcv2 := conv_own ho2.out
  have hcv3 := conv_own ho3.out
  obtain ⟨y0, y1, y2, y3, y4, -⟩ := row_cells hP.one
  obtain ⟨z0, z1, z2, z3, z4, -⟩ := row_cells hP.two
  go_upto_region 7 with fail
  go_wp2_with (go_at_call 8; refine (num_any _ _).mono ?_; rintro e w' ⟨rfl, hw⟩; replace hw := hw.symm; subst hw)
  clear y0 y1 y2 y3 y4 z0 z1 z2 z3 z4 hcv1 hcv2 hcv3
  go_fit (heq W4 _ hP.below hva.out).out
  rintro e W5 ⟨rfl, hb5⟩
  rw [eqT_true rfl]
  replace ho1 := hid_e (ownsRow_below ho1.out hb5)
  replace ho2 := hid_e (ownsRow_below ho2.out hb5)
  replace ho3 := hid_e (ownsRow_below ho3.out hb5)
  have hB5 := hP.below.trans (hb5.mono hP.below.size)
  have hsz5 := hb5.size
  clear hb5 hP hva heq hV hS hR hT
  have hlow : Hid (lo ≤ W5.heap.size) := by rw [Hid]; omega
  obtain ⟨a1, c1, hv1⟩ := ownsRow_slice ho1.out
  subst hv1
  go_wp2_with fail
  go_loopw [10] (fun iv wr => ∃ i : Nat, i ≤ l.length ∧ iv = .int .i64 i ∧ ∃ l' : List UInt8, l'.length = l.length ∧ Hid (KeyAt lo W5 (Value.slice a1 l.length c1).ownBlock wr (.slice a1 l.length c1) l')) (fun iv _ => l.length - (intOf iv).toNat)
  case atStart => exact ⟨0, Nat.zero_le _, rfl, l, rfl, hid_e (KeyAt.start ho1.out)⟩
  case round =>
    obtain ⟨i, hi, rfl, l', hl', hK⟩ := hrel
    have hlb : l.length ≤ 50000000000 := hlen.out
    by_cases hlt : i < l.length
    · have i1 : (i : Int) < (l.length : Int) := by omega
      have hown := hK.out.own
      rcases hown.2 with ⟨-, h0⟩ | ⟨g, cap, cur, hv, hg, hh, hc, hm, hs, hr⟩
      · omega
      simp only [Value.slice.injEq] at hv
      obtain ⟨rfl, -, rfl⟩ := hv
      rw [hl'] at hown
      have hca : wr.cell? ⟨g, i, none⟩ = some (.int .u8 (l'[i]'(by omega)).toNat) := by
        rw [World.ownsRow.cellAt hown i (by omega)]
        simp [Lib.byteCells, hl', hlt]
      have hfz := World.ownsRow.frozenAt hown i
      have hst := World.ownsRow.stored hown i (.int .u8 238)
      rw [bytes_set] at hst
      have hK2 : Hid (KeyAt lo W5 (Value.slice (some ⟨g, 0, none⟩) l.length c1).ownBlock (wr.setCell ⟨g, i, none⟩ (.int .u8 238)) (.slice (some ⟨g, 0, none⟩) l.length c1) (l'.set i 238)) :=
        hK.out.step (by rw [List.length_set, hl']; exact hst.1) hst.2 (.inl rfl)
      clear hown hst hr hs hm hc hh hg
      go_wp2_with fail
      clear hca hfz
      go_roundw
      case rel => exact ⟨i + 1, by omega, by go_num, _, by rw [List.length_set]; exact hl', hK2⟩
      case measure => simp [intOf]; omega
    · obtain rfl : i = l.length := by omega
      clear hi hlt
      go_wp2_with fail
      go_loopw [4, 11] (fun kv iv wr => ∃ i : Nat, i ≤ 64 ∧ iv = .int .i64 i ∧ ∃ l' : List UInt8, l'.length = l.length + i ∧ Hid (KeyAt lo W5 (Value.slice a1 l.length c1).ownBlock wr kv l')) (fun _ iv _ => 64 - (intOf iv).toNat)
      case atStart => exact ⟨0, Nat.zero_le _, rfl, l', by omega, hK⟩
      case round =>
        clear hK hl' l'
        obtain ⟨i, hi, rfl, l2, hl2, hK2⟩ := hrel
        by_cases hlt : i < 64
        · have i1 : (i : Int) < 64 := by omega
          have hbd : l2.length + 1 ≤ maxLen ∧ (l2.length + 1) * 1 ≤ 140737488355328 := by unfold maxLen; omega
          go_wp2_with (at_builtin; refine wpList_append_lies _ rfl _ _ 27 rfl lo 5 i5 _ 1 1 Tryd.underlying27 hi5 hz0 hz1 hz2 rfl (by decide) _ l2.length _ rfl (hK2.out.own.alloc _) ⟨wr.heap.size, 0, none⟩ 1 1 [.int .u8 221] rfl rfl (World.news_of_block (heap_alloc_new wr (.cells #[.int .u8 221] 5))) (fun u hu => by obtain rfl := List.mem_singleton.1 hu; rfl) (by decide) hbd.1 hbd.2 (by rw [World.size_alloc]; have h1 := hK2.out.grown.size; have h2 := hlow.out; omega) _ rfl ?_; intro ga capa Wa ho hgr hat hlta)
          have hKa : Hid (KeyAt lo W5 (Value.slice a1 l.length c1).ownBlock Wa (.slice (some ⟨ga, 0, none⟩) (l2.length + 1) capa) (l2 ++ [221])) :=
            (hK2.out.alloc (.cells #[.int .u8 221] 5)).app rfl (by simp [Lib.byteCells]) ho hgr hat
          clear ho hgr hat hlta
          go_wp2_with fail
          go_roundw
          case rel => exact ⟨i + 1, by omega, by go_num, l2 ++ [221], by rw [List.length_append]; simp only [List.length_cons, List.length_nil]; omega, by rw [← hl2]; exact hKa⟩
          case measure => simp [intOf]; omega
        · obtain rfl : i = 64 := by omega
          have hBr := hB5.trans (grown_below hK2.out.grown hB5.size (fun g hg => (hg1.out g hg).1))
          have hcv2 := conv_own (ho2.out.kept hK2.out.grown hn2.out)
          have hcv3 := conv_own (ho3.out.kept hK2.out.grown hn3.out)
          go_wp2_with fail
          clear hcv2 hcv3
          go_fit (hlive _ hBr).out
          rintro e w6 ⟨rfl, hb6⟩
          go_wp2_with fail
          go_ret
          exact ⟨rfl, hBr.trans (hb6.mono hBr.size)⟩
end Go.Proofs.YtifmmodgagdjfaaDoor
