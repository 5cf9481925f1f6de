import Derived.Test.YtjhefkojfojjdaaGreatDoorR5
import Derived.Test.YtjhefkojfojjdaaGreatDoorV5
import Derived.Test.YtjhefkojfojjdaaGreatDoorZ1
import Derived.Test.YtjhefkojfojjdaaGreatDoorU1
import Derived.Laws.IdiomStrings
import Derived.Deep.Cut
import Derived.Deep.RegionHeld3
/-! The document's Quoted: a clean text, written. -/
namespace Go.Proofs.YtjhefkojfojjdaaGreatDoor.Tree
open Go Go.RowKit

theorem Q5 : (Tryz.prog.info? 5).map (fun i => (i.zero, i.size, i.bytes)) = some (some (.int .u8 0), 1, 1) := by kernel_rfl
theorem below_grown {w wr w' : World} {g : Nat} (HB : Below w.heap.size w wr) (hg : wr.grownBy w' (some g)) (hge : w.heap.size ≤ g) : Below w.heap.size w w' :=
  ⟨hg.os.trans HB.os, hg.tape.trans HB.tape, hg.output.trans HB.output, Nat.le_trans HB.size hg.size, fun k hk => (hg.block k (Nat.lt_of_lt_of_le hk HB.size) (fun e => by injection e with e; omega)).trans (HB.block k hk)⟩
/-- The slice is the call's own row of these bytes. -/
def OwnB (lo : Nat) (wr : World) (v : Value) (l : List UInt8) : Prop := ∃ g cap, v = .slice (some ⟨g, 0, none⟩) l.length cap ∧ lo ≤ g ∧ wr.ownsRow lo 5 1 (.slice (some ⟨g, 0, none⟩) l.length cap) l.length (Lib.byteCells l)
theorem own_next {lo : Nat} {wr : World} {l add : List UInt8} {g cap n : Nat} {news : List Value} (h : wr.ownsRow lo 5 1 (.slice (some ⟨g, 0, none⟩) (l.length + n) cap) (l.length + n) (Lib.byteCells l ++ news)) (hn : add.length = n) (hnews : news = Lib.byteCells add) (hg : lo ≤ g) : OwnB lo wr (.slice (some ⟨g, 0, none⟩) (l.length + n) cap) (l ++ add) := by
  subst hn hnews
  rw [← Lib.byteCells_append, ← List.length_append] at h
  exact ⟨g, cap, by rw [List.length_append], hg, h⟩
theorem eT_next {s : ByteArray} {i : Nat} (h : i < s.size) : eT s (i + 1) = eT s i ++ byteE (byteAt s i) := by
  unfold eT
  have h1 : s.data.toList[i]? = some (byteAt s i) := by
    unfold byteAt
    rw [Array.getElem?_toList, Array.getD_eq_getD_getElem?]
    have : i < s.data.size := h
    rw [Array.getElem?_eq_getElem this]
    rfl
  rw [List.take_add_one, h1, escT_append]
  congr 1
  show byteE (byteAt s i) ++ escT [] = _
  rw [escT_nil, List.append_nil]
theorem byte_is {b : UInt8} {c : Nat} (hc : c < 256) (h : (b.toNat : Int) = (c : Int)) : b = UInt8.ofNat c := by
  apply UInt8.toNat_inj.1
  rw [UInt8.toNat_ofNat']
  omega
def hexT : ByteArray := ⟨#[48, 49, 50, 51, 52, 53, 54, 55, 56, 57, 97, 98, 99, 100, 101, 102]⟩
theorem hex_at : ∀ d : Nat, d < 16 → ∀ h : d < hexT.size, hexT[d] = hexB d := by decide
theorem own_ge {lo : Nat} {wr : World} {g n cap : Nat} {xs : List Value} (h : wr.ownsRow lo 5 1 (.slice (some ⟨g, 0, none⟩) n cap) n xs) : g < wr.heap.size := by
  rcases h.2 with ⟨hv, _⟩ | ⟨g', cap', cur, hv, hg, hh, _⟩
  · cases hv
  · cases hv; exact (Array.getElem?_eq_some_iff.1 hh).1

set_option maxHeartbeats 8000000 in
set_option maxRecDepth 100000 in
theorem quoted_code (s : ByteArray) (hs : s.size ≤ 1000000000) (w : World) : Calls Tryz.prog 37 #[.string s] w fun e w' => e = .returned (.string ⟨(qT s).toArray⟩) ∧ Below w.heap.size w w' := by
  obtain ⟨i5, hi5, hz0, hz1, hz2⟩ := info_parts Q5
  have hB : ∀ o, Below w.heap.size w (w.alloc o) := fun o => (Below.refl _ _).alloc (Nat.le_refl _) _
  obtain ⟨HX, hHX⟩ : ∃ X : ByteArray, Hid (X = hexT) := ⟨_, hid_e rfl⟩
  go_enter Tryz.func37, Tryz.ntmps37
  go_upto_region 3 with fail
  have ho0 : OwnB w.heap.size (w.alloc (.cells #[.int .u8 34] 5)) (.slice (some ⟨w.heap.size, 0, none⟩) 1 1) ([34] ++ eT s 0) := by
    have e0 : eT s 0 = [] := by unfold eT; rw [List.take_zero, escT_nil]
    rw [e0]
    exact ⟨w.heap.size, 1, rfl, Nat.le_refl _, ⟨rfl, .inr ⟨w.heap.size, 1, #[.int .u8 34], rfl, Nat.le_refl _, heap_alloc_new w _, Nat.le_refl _, by decide, rfl, rfl⟩⟩⟩
  have hb0 := hB (.cells #[.int .u8 34] 5)
  generalize w.alloc (.cells #[.int .u8 34] 5) = W0 at ho0 hb0 ⊢
  rw [show (⟨#[48, 49, 50, 51, 52, 53, 54, 55, 56, 57, 97, 98, 99, 100, 101, 102]⟩ : ByteArray) = HX from hHX.out.symm]
  obtain ⟨B0, hB0⟩ : ∃ B, Hid (Value.slice (some ⟨w.heap.size, 0, none⟩) 1 1 = B) := ⟨_, hid_e rfl⟩
  rw [hB0.out] at ho0 ⊢
  clear hB0 hB
  go_wp2_with fail
  go_loopw [4, 5] (fun v iv wr => ∃ i : Nat, i ≤ s.size ∧ iv = .int .i64 i ∧ Below w.heap.size w wr ∧ Hid (OwnB w.heap.size wr v ([34] ++ eT s i))) (fun _ iv _ => s.size - (intOf iv).toNat)
  case atStart => exact ⟨0, Nat.zero_le _, rfl, hb0, ho0⟩
  case round =>
    clear hb0 ho0
    obtain ⟨i, hi, rfl, HB, hO⟩ := hrel
    obtain ⟨l, hl⟩ : ∃ l, Hid ([34] ++ eT s i = l) := ⟨_, hid_e rfl⟩
    rw [hl.out] at hO
    have hll : Hid (l.length ≤ 6 * s.size + 1) := by
      have h1 := eT_len s i hi
      rw [Hid, ← hl.out, List.length_append]
      simp
      omega
    obtain ⟨g, cap, rfl, hge, hown⟩ := hO.out
    have hglt := own_ge hown
    have hsz := HB.size
    clear hO
    have hbd : ∀ m : Nat, m ≤ 100 → l.length + m ≤ maxLen ∧ (l.length + m) * 1 ≤ 140737488355328 := fun m hm => by have := hll.out; unfold maxLen; omega
    by_cases hlt : i < s.size
    · have hd : decide ((i : Int) < (s.size : Int)) = true := by simp; omega
      have i1 : (i : Int) < (s.size : Int) := by omega
      have he := byteAt_eq hlt
      have hnx := hid_e (eT_next hlt)
      obtain ⟨b, hb⟩ : ∃ b, Hid (byteAt s i = b) := ⟨_, hid_e rfl⟩
      rw [hb.out] at he hnx
      obtain ⟨c, hc⟩ : ∃ c : Nat, Hid (b.toNat = c) := ⟨_, hid_e rfl⟩
      have hc8 : c < 256 := by rw [← hc.out]; exact b.toNat_lt
      have hbc : Hid (b = UInt8.ofNat c) := byte_is hc8 (by rw [hc.out])
      by_cases x34 : c = 34
      · subst x34
        have hcb : ((b.toNat : Nat) : Int) = 34 := by rw [hc.out]; rfl
        have hadd : Hid ([34] ++ eT s (i + 1) = l ++ [92, 34]) := by rw [Hid, hnx.out, ← hl.out, List.append_assoc]; congr 2; rw [hbc.out]; rfl
        have HBa : Below w.heap.size w (wr.alloc (.cells #[.int .u8 92, .int .u8 34] 5)) := HB.alloc hsz _
        go_wp2_with (at_builtin; refine wpList_append_src _ rfl _ _ 40 40 rfl w.heap.size 5 i5 _ 1 Tryz.underlying40 hi5 hz0 hz1 hz2 rfl g l.length cap _ rfl (hown.alloc _) _ 2 (Lib.byteCells [92, 34]) rfl (Src.ofSlice _ Tryz.underlying40 ⟨wr.heap.size, 0, none⟩ 2 2 _ rfl (World.news_of_block (heap_alloc_new wr (.cells #[.int .u8 92, .int .u8 34] 5))) (fun u hu => by obtain ⟨_, _, rfl⟩ := List.mem_map.1 hu; rfl)) (hbd 2 (by decide)).1 (hbd 2 (by decide)).2 HBa.size ?_; intro g' cap' w' hown' hgrow hat)
        have hge' : w.heap.size ≤ g' := by
          rcases hat with h | h
          · omega
          · rw [h]; exact HBa.size
        have HB' := below_grown HBa hgrow hge
        have hO' : Hid (OwnB w.heap.size w' (.slice (some ⟨g', 0, none⟩) (l.length + 2) cap') ([34] ++ eT s (i + 1))) := by rw [Hid, hadd.out]; exact own_next hown' rfl rfl hge'
        clear hown' hgrow hat hown
        go_wp2_with fail
        go_roundw
        case rel => exact ⟨i + 1, by omega, by simp, HB', hO'⟩
        case measure => simp [intOf]; omega
      have q34 : ((c : Int) == 34) = false := by simp; omega
      by_cases x92 : c = 92
      · subst x92
        have hcb : ((b.toNat : Nat) : Int) = 92 := by rw [hc.out]; rfl
        have hadd : Hid ([34] ++ eT s (i + 1) = l ++ [92, 92]) := by rw [Hid, hnx.out, ← hl.out, List.append_assoc]; congr 2; rw [hbc.out]; rfl
        have HBa : Below w.heap.size w (wr.alloc (.cells #[.int .u8 92, .int .u8 92] 5)) := HB.alloc hsz _
        go_wp2_with (at_builtin; refine wpList_append_src _ rfl _ _ 40 40 rfl w.heap.size 5 i5 _ 1 Tryz.underlying40 hi5 hz0 hz1 hz2 rfl g l.length cap _ rfl (hown.alloc _) _ 2 (Lib.byteCells [92, 92]) rfl (Src.ofSlice _ Tryz.underlying40 ⟨wr.heap.size, 0, none⟩ 2 2 _ rfl (World.news_of_block (heap_alloc_new wr (.cells #[.int .u8 92, .int .u8 92] 5))) (fun u hu => by obtain ⟨_, _, rfl⟩ := List.mem_map.1 hu; rfl)) (hbd 2 (by decide)).1 (hbd 2 (by decide)).2 HBa.size ?_; intro g' cap' w' hown' hgrow hat)
        have hge' : w.heap.size ≤ g' := by
          rcases hat with h | h
          · omega
          · rw [h]; exact HBa.size
        have HB' := below_grown HBa hgrow hge
        have hO' : Hid (OwnB w.heap.size w' (.slice (some ⟨g', 0, none⟩) (l.length + 2) cap') ([34] ++ eT s (i + 1))) := by rw [Hid, hadd.out]; exact own_next hown' rfl rfl hge'
        clear hown' hgrow hat hown
        go_wp2_with fail
        go_roundw
        case rel => exact ⟨i + 1, by omega, by simp, HB', hO'⟩
        case measure => simp [intOf]; omega
      have q92 : ((c : Int) == 92) = false := by simp; omega
      by_cases x8 : c = 8
      · subst x8
        have hcb : ((b.toNat : Nat) : Int) = 8 := by rw [hc.out]; rfl
        have hadd : Hid ([34] ++ eT s (i + 1) = l ++ [92, 98]) := by rw [Hid, hnx.out, ← hl.out, List.append_assoc]; congr 2; rw [hbc.out]; rfl
        go_wp2_with (at_builtin; refine wpList_append_src _ rfl _ _ 40 9 rfl w.heap.size 5 i5 _ 1 Tryz.underlying40 hi5 hz0 hz1 hz2 rfl g l.length cap _ rfl hown (.string ⟨#[92, 98]⟩) 2 (Lib.byteCells [92, 98]) rfl (Src.ofString _ Tryz.underlying9 ⟨#[92, 98]⟩) (hbd 2 (by decide)).1 (hbd 2 (by decide)).2 HB.size ?_; intro g' cap' w' hown' hgrow hat)
        have hge' : w.heap.size ≤ g' := by
          rcases hat with h | h
          · omega
          · rw [h]; exact HB.size
        have HB' := below_grown HB hgrow hge
        have hO' : Hid (OwnB w.heap.size w' (.slice (some ⟨g', 0, none⟩) (l.length + 2) cap') ([34] ++ eT s (i + 1))) := by rw [Hid, hadd.out]; exact own_next hown' rfl rfl hge'
        clear hown' hgrow hat hown
        go_wp2_with fail
        go_roundw
        case rel => exact ⟨i + 1, by omega, by simp, HB', hO'⟩
        case measure => simp [intOf]; omega
      have q8 : ((c : Int) == 8) = false := by simp; omega
      by_cases x9 : c = 9
      · subst x9
        have hcb : ((b.toNat : Nat) : Int) = 9 := by rw [hc.out]; rfl
        have hadd : Hid ([34] ++ eT s (i + 1) = l ++ [92, 116]) := by rw [Hid, hnx.out, ← hl.out, List.append_assoc]; congr 2; rw [hbc.out]; rfl
        go_wp2_with (at_builtin; refine wpList_append_src _ rfl _ _ 40 9 rfl w.heap.size 5 i5 _ 1 Tryz.underlying40 hi5 hz0 hz1 hz2 rfl g l.length cap _ rfl hown (.string ⟨#[92, 116]⟩) 2 (Lib.byteCells [92, 116]) rfl (Src.ofString _ Tryz.underlying9 ⟨#[92, 116]⟩) (hbd 2 (by decide)).1 (hbd 2 (by decide)).2 HB.size ?_; intro g' cap' w' hown' hgrow hat)
        have hge' : w.heap.size ≤ g' := by
          rcases hat with h | h
          · omega
          · rw [h]; exact HB.size
        have HB' := below_grown HB hgrow hge
        have hO' : Hid (OwnB w.heap.size w' (.slice (some ⟨g', 0, none⟩) (l.length + 2) cap') ([34] ++ eT s (i + 1))) := by rw [Hid, hadd.out]; exact own_next hown' rfl rfl hge'
        clear hown' hgrow hat hown
        go_wp2_with fail
        go_roundw
        case rel => exact ⟨i + 1, by omega, by simp, HB', hO'⟩
        case measure => simp [intOf]; omega
      have q9 : ((c : Int) == 9) = false := by simp; omega
      by_cases x10 : c = 10
      · subst x10
        have hcb : ((b.toNat : Nat) : Int) = 10 := by rw [hc.out]; rfl
        have hadd : Hid ([34] ++ eT s (i + 1) = l ++ [92, 110]) := by rw [Hid, hnx.out, ← hl.out, List.append_assoc]; congr 2; rw [hbc.out]; rfl
        go_wp2_with (at_builtin; refine wpList_append_src _ rfl _ _ 40 9 rfl w.heap.size 5 i5 _ 1 Tryz.underlying40 hi5 hz0 hz1 hz2 rfl g l.length cap _ rfl hown (.string ⟨#[92, 110]⟩) 2 (Lib.byteCells [92, 110]) rfl (Src.ofString _ Tryz.underlying9 ⟨#[92, 110]⟩) (hbd 2 (by decide)).1 (hbd 2 (by decide)).2 HB.size ?_; intro g' cap' w' hown' hgrow hat)
        have hge' : w.heap.size ≤ g' := by
          rcases hat with h | h
          · omega
          · rw [h]; exact HB.size
        have HB' := below_grown HB hgrow hge
        have hO' : Hid (OwnB w.heap.size w' (.slice (some ⟨g', 0, none⟩) (l.length + 2) cap') ([34] ++ eT s (i + 1))) := by rw [Hid, hadd.out]; exact own_next hown' rfl rfl hge'
        clear hown' hgrow hat hown
        go_wp2_with fail
        go_roundw
        case rel => exact ⟨i + 1, by omega, by simp, HB', hO'⟩
        case measure => simp [intOf]; omega
      have q10 : ((c : Int) == 10) = false := by simp; omega
      by_cases x12 : c = 12
      · subst x12
        have hcb : ((b.toNat : Nat) : Int) = 12 := by rw [hc.out]; rfl
        have hadd : Hid ([34] ++ eT s (i + 1) = l ++ [92, 102]) := by rw [Hid, hnx.out, ← hl.out, List.append_assoc]; congr 2; rw [hbc.out]; rfl
        go_wp2_with (at_builtin; refine wpList_append_src _ rfl _ _ 40 9 rfl w.heap.size 5 i5 _ 1 Tryz.underlying40 hi5 hz0 hz1 hz2 rfl g l.length cap _ rfl hown (.string ⟨#[92, 102]⟩) 2 (Lib.byteCells [92, 102]) rfl (Src.ofString _ Tryz.underlying9 ⟨#[92, 102]⟩) (hbd 2 (by decide)).1 (hbd 2 (by decide)).2 HB.size ?_; intro g' cap' w' hown' hgrow hat)
        have hge' : w.heap.size ≤ g' := by
          rcases hat with h | h
          · omega
          · rw [h]; exact HB.size
        have HB' := below_grown HB hgrow hge
        have hO' : Hid (OwnB w.heap.size w' (.slice (some ⟨g', 0, none⟩) (l.length + 2) cap') ([34] ++ eT s (i + 1))) := by rw [Hid, hadd.out]; exact own_next hown' rfl rfl hge'
        clear hown' hgrow hat hown
        go_wp2_with fail
        go_roundw
        case rel => exact ⟨i + 1, by omega, by simp, HB', hO'⟩
        case measure => simp [intOf]; omega
      have q12 : ((c : Int) == 12) = false := by simp; omega
      by_cases x13 : c = 13
      · subst x13
        have hcb : ((b.toNat : Nat) : Int) = 13 := by rw [hc.out]; rfl
        have hadd : Hid ([34] ++ eT s (i + 1) = l ++ [92, 114]) := by rw [Hid, hnx.out, ← hl.out, List.append_assoc]; congr 2; rw [hbc.out]; rfl
        go_wp2_with (at_builtin; refine wpList_append_src _ rfl _ _ 40 9 rfl w.heap.size 5 i5 _ 1 Tryz.underlying40 hi5 hz0 hz1 hz2 rfl g l.length cap _ rfl hown (.string ⟨#[92, 114]⟩) 2 (Lib.byteCells [92, 114]) rfl (Src.ofString _ Tryz.underlying9 ⟨#[92, 114]⟩) (hbd 2 (by decide)).1 (hbd 2 (by decide)).2 HB.size ?_; intro g' cap' w' hown' hgrow hat)
        have hge' : w.heap.size ≤ g' := by
          rcases hat with h | h
          · omega
          · rw [h]; exact HB.size
        have HB' := below_grown HB hgrow hge
        have hO' : Hid (OwnB w.heap.size w' (.slice (some ⟨g', 0, none⟩) (l.length + 2) cap') ([34] ++ eT s (i + 1))) := by rw [Hid, hadd.out]; exact own_next hown' rfl rfl hge'
        clear hown' hgrow hat hown
        go_wp2_with fail
        go_roundw
        case rel => exact ⟨i + 1, by omega, by simp, HB', hO'⟩
        case measure => simp [intOf]; omega
      have q13 : ((c : Int) == 13) = false := by simp; omega
      have hcb : ((b.toNat : Nat) : Int) = (c : Int) := by rw [hc.out]
      by_cases x32 : c < 32
      · have h32 : (c : Int) < 32 := by omega
        have hadd : Hid ([34] ++ eT s (i + 1) = (l ++ [92, 117, 48, 48]) ++ [hexB (c / 16), hexB (c % 16)]) := by
          rw [Hid, hnx.out, ← hl.out, List.append_assoc, List.append_assoc]
          congr 2
          unfold byteE isEsc escB
          rw [hc.out, if_pos (by simp [x32]), if_neg x34, if_neg x92, if_neg x8, if_neg x9, if_neg x10, if_neg x12, if_neg x13]
          rfl
        skip
        go_wp2_with (at_builtin; refine wpList_append_src _ rfl _ _ 40 9 rfl w.heap.size 5 i5 _ 1 Tryz.underlying40 hi5 hz0 hz1 hz2 rfl g l.length cap _ rfl hown (.string ⟨#[92, 117, 48, 48]⟩) 4 (Lib.byteCells [92, 117, 48, 48]) rfl (Src.ofString _ Tryz.underlying9 ⟨#[92, 117, 48, 48]⟩) (hbd 4 (by decide)).1 (hbd 4 (by decide)).2 HB.size ?_; intro g1 cap1 w1 hown1 hgrow1 hat1)
        have hge1 : w.heap.size ≤ g1 := by
          rcases hat1 with h | h
          · omega
          · rw [h]; exact HB.size
        have HB1 := below_grown HB hgrow1 hge
        obtain ⟨g1', cap1', e1, -, hown1'⟩ := own_next (l := l) (add := [92, 117, 48, 48]) hown1 rfl rfl hge1
        simp only [Value.slice.injEq, Option.some.injEq, Addr.mk.injEq, and_true] at e1
        obtain ⟨eg, hl4, ec⟩ := e1
        rw [← eg, ← ec] at hown1'
        clear eg ec g1' cap1'
        obtain ⟨l2, hl2⟩ : ∃ l2, Hid (l ++ [92, 117, 48, 48] = l2) := ⟨_, hid_e rfl⟩
        rw [hl2.out] at hown1' hl4 hadd
        rw [hl4]
        have hglt1 := own_ge hown1'
        have hbd1 : l2.length + 2 ≤ maxLen ∧ (l2.length + 2) * 1 ≤ 140737488355328 := by have h1 := hll.out; unfold maxLen; omega
        clear hown1 hgrow1 hat1 hown hl4
        have h16 : HX.size = 16 := by rw [hHX.out]; rfl
        obtain ⟨q, hq⟩ : ∃ q, Hid (c / 16 = q) := ⟨_, hid_e rfl⟩
        obtain ⟨r, hr⟩ : ∃ q, Hid (c % 16 = q) := ⟨_, hid_e rfl⟩
        rw [hq.out, hr.out] at hadd
        have hq16 : q < HX.size := by rw [h16, ← hq.out]; omega
        have hr16 : r < HX.size := by rw [h16, ← hr.out]; omega
        have hcq : (c : Int) / 16 = (q : Int) := by rw [← hq.out]; omega
        have hcr : (c : Int) % 16 = (r : Int) := by rw [← hr.out]; omega
        have hcq' : Int.tdiv (c : Int) 16 = (q : Int) := by rw [Int.tdiv_eq_ediv_of_nonneg (by omega)]; exact hcq
        have hcr' : Int.tmod (c : Int) 16 = (r : Int) := by rw [Int.tmod_eq_emod_of_nonneg (by omega)]; exact hcr
        have hwq : IntKind.u8.wrap (q : Int) = (q : Int) := by simp [IntKind.wrap, IntKind.bits, IntKind.signed]; omega
        have hwr : IntKind.u8.wrap (r : Int) = (r : Int) := by simp [IntKind.wrap, IntKind.bits, IntKind.signed]; omega
        have hiq : HX[q] = hexB q := by simp only [hHX.out]; exact hex_at q (by omega) _
        have hir : HX[r] = hexB r := by simp only [hHX.out]; exact hex_at r (by omega) _
        obtain ⟨bq, hbq⟩ : ∃ x, Hid (hexB q = x) := ⟨_, hid_e rfl⟩
        obtain ⟨br, hbr⟩ : ∃ x, Hid (hexB r = x) := ⟨_, hid_e rfl⟩
        rw [hbq.out] at hiq hadd
        rw [hbr.out] at hir hadd
        have hq15 : ¬ (16 : Int) ≤ (q : Int) := by omega
        have hr15 : ¬ (16 : Int) ≤ (r : Int) := by omega
        have hqi : (q : Int) < (HX.size : Int) := by omega
        have hri : (r : Int) < (HX.size : Int) := by omega
        go_wp2_with fail
        have HB1' := below_drew HB1
        have hownd := hown1'.drew
        refine wp_region_noPanic ?_
        refine Until.wp_region_U (fun w' => Below w.heap.size w w') (fun _ => True) 11 (by kernel_rfl) ?_
        generalize w1.drew = X at HB1' hownd ⊢
        refine Until.wpU_pure (i := 0) (oi := { dst := some 62, op := Op.move (Operand.tmp 4), type := 40, pos := "print.go:79", after := #[], guard := none }) (v := .slice (some ⟨g1, 0, none⟩) l2.length cap1) rfl (by kernel_rfl) (by kernel_rfl) (by kernel_rfl) (by kernel_rfl) (by kernel_rfl) (fun _ _ _ h => h) (HB1') (fun _ => trivial) (by rfl) (by intro w'; go_simp) ?_
        try simp only [Act.put, List.setIfInBounds_toArray, List.set_cons_zero, List.set_cons_succ]
        refine Until.wpU_pure (i := 1) (oi := { dst := some 63, op := Op.move (Operand.tmp 3), type := 9, pos := "print.go:79", after := #[], guard := none }) (v := .string HX) rfl (by kernel_rfl) (by kernel_rfl) (by kernel_rfl) (by kernel_rfl) (by kernel_rfl) (fun _ _ _ h => h) (HB1') (fun _ => trivial) (by rfl) (by intro w'; go_simp) ?_
        try simp only [Act.put, List.setIfInBounds_toArray, List.set_cons_zero, List.set_cons_succ]
        refine Until.wpU_pure (i := 2) (oi := { dst := some 64, op := Op.move (Operand.tmp 6), type := 5, pos := "print.go:79", after := #[], guard := none }) (v := .int .u8 (c : Int)) rfl (by kernel_rfl) (by kernel_rfl) (by kernel_rfl) (by kernel_rfl) (by kernel_rfl) (fun _ _ _ h => h) (HB1') (fun _ => trivial) (by rfl) (by intro w'; go_simp) ?_
        try simp only [Act.put, List.setIfInBounds_toArray, List.set_cons_zero, List.set_cons_succ]
        refine Until.wpU_pure (i := 3) (oi := { dst := some 65, op := Op.binOp BinOp.quo 5 (Operand.tmp 64) (Operand.const (Value.int IntKind.u8 16)) 5, type := 5, pos := "print.go:79", after := #[{ on := 2, ground := Ground.data }], guard := none }) (v := .int .u8 (q : Int)) rfl (by kernel_rfl) (by kernel_rfl) (by kernel_rfl) (by kernel_rfl) (by kernel_rfl) (fun _ _ _ h => h) (HB1') (fun _ => trivial) (by rfl) (by intro w'; go_simp) ?_
        try simp only [Act.put, List.setIfInBounds_toArray, List.set_cons_zero, List.set_cons_succ]
        refine Until.wpU_pure (i := 4) (oi := { dst := some 66, op := Op.index 9 (Operand.tmp 63) (Operand.tmp 65), type := 5, pos := "print.go:79", after := #[{ on := 1, ground := Ground.data }, { on := 3, ground := Ground.data }], guard := none }) (v := .int .u8 (bq.toNat : Int)) rfl (by kernel_rfl) (by kernel_rfl) (by kernel_rfl) (by kernel_rfl) (by kernel_rfl) (fun _ _ _ h => h) (HB1') (fun _ => trivial) (by rfl) (by intro w'; go_simp) ?_
        try simp only [Act.put, List.setIfInBounds_toArray, List.set_cons_zero, List.set_cons_succ]
        refine Until.wpU_pure (i := 5) (oi := { dst := some 67, op := Op.move (Operand.tmp 3), type := 9, pos := "print.go:79", after := #[], guard := none }) (v := .string HX) rfl (by kernel_rfl) (by kernel_rfl) (by kernel_rfl) (by kernel_rfl) (by kernel_rfl) (fun _ _ _ h => h) (HB1') (fun _ => trivial) (by rfl) (by intro w'; go_simp) ?_
        try simp only [Act.put, List.setIfInBounds_toArray, List.set_cons_zero, List.set_cons_succ]
        refine Until.wpU_pure (i := 6) (oi := { dst := some 68, op := Op.move (Operand.tmp 6), type := 5, pos := "print.go:79", after := #[], guard := none }) (v := .int .u8 (c : Int)) rfl (by kernel_rfl) (by kernel_rfl) (by kernel_rfl) (by kernel_rfl) (by kernel_rfl) (fun _ _ _ h => h) (HB1') (fun _ => trivial) (by rfl) (by intro w'; go_simp) ?_
        try simp only [Act.put, List.setIfInBounds_toArray, List.set_cons_zero, List.set_cons_succ]
        refine Until.wpU_pure (i := 7) (oi := { dst := some 69, op := Op.binOp BinOp.rem 5 (Operand.tmp 68) (Operand.const (Value.int IntKind.u8 16)) 5, type := 5, pos := "print.go:79", after := #[{ on := 6, ground := Ground.data }], guard := none }) (v := .int .u8 (r : Int)) rfl (by kernel_rfl) (by kernel_rfl) (by kernel_rfl) (by kernel_rfl) (by kernel_rfl) (fun _ _ _ h => h) (HB1') (fun _ => trivial) (by rfl) (by intro w'; go_simp) ?_
        try simp only [Act.put, List.setIfInBounds_toArray, List.set_cons_zero, List.set_cons_succ]
        refine Until.wpU_pure (i := 8) (oi := { dst := some 70, op := Op.index 9 (Operand.tmp 67) (Operand.tmp 69), type := 5, pos := "print.go:79", after := #[{ on := 5, ground := Ground.data }, { on := 7, ground := Ground.data }], guard := none }) (v := .int .u8 (br.toNat : Int)) rfl (by kernel_rfl) (by kernel_rfl) (by kernel_rfl) (by kernel_rfl) (by kernel_rfl) (fun _ _ _ h => h) (HB1') (fun _ => trivial) (by rfl) (by intro w'; go_simp) ?_
        try simp only [Act.put, List.setIfInBounds_toArray, List.set_cons_zero, List.set_cons_succ]
        refine Until.wpU_ready (rs := [9]) (by kernel_rfl) (by simp) ?_
        refine (Until.AllU.cons (o := { dst := some 71, op := Op.buildSlice 40 2 #[(0, Operand.tmp 66), (1, Operand.tmp 70)], type := 40, pos := "print.go:79", after := #[{ on := 4, ground := Ground.data }, { on := 8, ground := Ground.data }], guard := none }) rfl (fun K hK => ?_) Until.AllU.nil)
        go_simp
        have HBa : Below w.heap.size w (X.alloc (.cells #[.int .u8 (bq.toNat : Int), .int .u8 (br.toNat : Int)] 5)) := HB1'.alloc HB1'.size _
        refine hK.out _ _ HBa (fun _ => trivial) ?_
        clear hK K
        try simp only [Act.put, List.setIfInBounds_toArray, List.set_cons_zero, List.set_cons_succ]
        refine Until.wpU_ready (rs := [10]) (by kernel_rfl) (by simp) ?_
        refine (Until.AllU.cons (o := { dst := some 72, op := Op.call { callee := Callee.builtin Builtin.append, args := #[Operand.tmp 62, Operand.tmp 71], argTypes := #[40, 40] }, type := 40, pos := "print.go:79", after := #[{ on := 0, ground := Ground.data }, { on := 9, ground := Ground.data }], guard := none }) rfl (fun K hK => ?_) Until.AllU.nil)
        refine step_append_lies _ (by rfl) _ _ 40 (by rfl) w.heap.size 5 i5 _ 1 1 Tryz.underlying40 hi5 hz0 hz1 hz2 (by rfl) (by omega) _ l2.length _ (by rfl) (hownd.alloc _) _ 2 2 (Lib.byteCells [bq, br]) (by rfl) (by rfl) (World.news_of_block (heap_alloc_new X (.cells #[.int .u8 (bq.toNat : Int), .int .u8 (br.toNat : Int)] 5))) (fun u hu => by obtain ⟨_, _, rfl⟩ := List.mem_map.1 hu; rfl) (by decide) hbd1.1 hbd1.2 HBa.size _ rfl ?_
        intro g' cap' w' hown' hgrow hat hlt'
        have hge' : w.heap.size ≤ g' := by
          rcases hat with h | h
          · have h1 : g1 = g' := by simpa [Value.ownBlock] using h
            omega
          · rw [h]; exact HBa.size
        have HB' : Below w.heap.size w w' := below_grown (g := g1) HBa (by simpa [Value.ownBlock] using hgrow) hge1
        have hO' : Hid (OwnB w.heap.size w' (.slice (some ⟨g', 0, none⟩) (l2.length + 2) cap') ([34] ++ eT s (i + 1))) := by rw [Hid, hadd.out]; exact own_next hown' rfl rfl hge'
        refine hK.out _ _ HB' (fun _ => trivial) ?_
        clear hK K
        try simp only [Act.put, List.setIfInBounds_toArray, List.set_cons_zero, List.set_cons_succ]
        refine Until.wpU_ready (rs := [11]) (by kernel_rfl) (by simp) ?_
        refine (Until.AllU.cons (o := { dst := some 4, op := Op.assign (Operand.tmp 72), type := 40, pos := "print.go:79", after := #[{ on := 10, ground := Ground.data }, { on := 10, ground := Ground.chain }, { on := 0, ground := Ground.phase }, { on := 1, ground := Ground.phase }, { on := 2, ground := Ground.phase }, { on := 3, ground := Ground.phase }, { on := 4, ground := Ground.phase }, { on := 5, ground := Ground.phase }, { on := 6, ground := Ground.phase }, { on := 7, ground := Ground.phase }, { on := 8, ground := Ground.phase }, { on := 9, ground := Ground.phase }, { on := 10, ground := Ground.phase }], guard := none }) rfl (fun K hK => ?_) Until.AllU.nil)
        go_simp
        refine hK.out _ _ HB' (fun _ => trivial) ?_
        clear hK K
        try simp only [Act.put, List.setIfInBounds_toArray, List.set_cons_zero, List.set_cons_succ]
        refine Until.wpU_done (by kernel_rfl) ?_ _
        refine NoPanic.normal ?_
        go_wp2_with fail
        go_roundw
        case rel => exact ⟨i + 1, by omega, by simp, HB', hO'⟩
        case measure => simp [intOf]; omega
      · have h32 : ¬ (c : Int) < 32 := by omega
        have hadd : Hid ([34] ++ eT s (i + 1) = l ++ [b]) := by
          rw [Hid, hnx.out, ← hl.out, List.append_assoc]
          congr 2
          unfold byteE isEsc
          rw [hc.out, if_neg (by simp [x32, x34, x92])]
        have HBa : Below w.heap.size w (wr.alloc (.cells #[.int .u8 (c : Int)] 5)) := HB.alloc hsz _
        have hnb : Lib.byteCells [b] = [.int .u8 (c : Int)] := by simp only [Lib.byteCells, List.map_cons, List.map_nil, hcb]
        go_wp2_with (at_builtin; refine wpList_append_src _ rfl _ _ 40 40 rfl w.heap.size 5 i5 _ 1 Tryz.underlying40 hi5 hz0 hz1 hz2 rfl g l.length cap _ rfl (hown.alloc _) _ 1 [.int .u8 (c : Int)] rfl (Src.ofSlice _ Tryz.underlying40 ⟨wr.heap.size, 0, none⟩ 1 1 _ rfl (World.news_of_block (heap_alloc_new wr (.cells #[.int .u8 (c : Int)] 5))) (fun u hu => by obtain rfl := List.mem_singleton.1 hu; rfl)) (hbd 1 (by decide)).1 (hbd 1 (by decide)).2 HBa.size ?_; intro g' cap' w' hown' hgrow hat)
        rw [← hnb] at hown'
        have hge' : w.heap.size ≤ g' := by
          rcases hat with h | h
          · omega
          · rw [h]; exact HBa.size
        have HB' := below_grown HBa hgrow hge
        have hO' : Hid (OwnB w.heap.size w' (.slice (some ⟨g', 0, none⟩) (l.length + 1) cap') ([34] ++ eT s (i + 1))) := by rw [Hid, hadd.out]; exact own_next hown' rfl rfl hge'
        clear hown' hgrow hat hown
        go_wp2_with fail
        go_roundw
        case rel => exact ⟨i + 1, by omega, by simp, HB', hO'⟩
        case measure => simp [intOf]; omega
    · have hd : decide ((i : Int) < (s.size : Int)) = false := by simp; omega
      obtain rfl : i = s.size := by omega
      have HBa : Below w.heap.size w (wr.alloc (.cells #[.int .u8 34] 5)) := HB.alloc hsz _
      have hq : Hid (l ++ [34] = qT s) := by rw [Hid, ← hl.out, eT_end]; rfl
      go_wp2_with (at_builtin; refine wpList_append_src _ rfl _ _ 40 40 rfl w.heap.size 5 i5 _ 1 Tryz.underlying40 hi5 hz0 hz1 hz2 rfl g l.length cap _ rfl (hown.alloc _) _ 1 (Lib.byteCells [34]) rfl (Src.ofSlice _ Tryz.underlying40 ⟨wr.heap.size, 0, none⟩ 1 1 _ rfl (World.news_of_block (heap_alloc_new wr (.cells #[.int .u8 34] 5))) (fun u hu => by obtain ⟨_, _, rfl⟩ := List.mem_map.1 hu; rfl)) (hbd 1 (by decide)).1 (hbd 1 (by decide)).2 HBa.size ?_; intro g' cap' w' hown' hgrow hat)
      have HB' := below_grown HBa hgrow hge
      rw [← Lib.byteCells_append, hq.out, show l.length + 1 = (qT s).length by rw [← hq.out, List.length_append]; rfl] at hown'
      have hcv := run_convert_bytes_back (P := Tryz.prog) w' 40 9 5 ⟨g', 0, none⟩ cap' (qT s) Tryz.underlying40 Tryz.underlying5 Tryz.underlying9 (fun j hj => hown'.cells rfl j _ (by simp [Lib.byteCells, hj]))
      rw [show l.length + 1 = (qT s).length by rw [← hq.out, List.length_append]; rfl]
      clear hown' hgrow hat hown
      go_wp2_with fail
      rw [hcv]
      go_wp2_with fail
      go_ret
      exact ⟨rfl, HB'⟩
end Go.Proofs.YtjhefkojfojjdaaGreatDoor.Tree
