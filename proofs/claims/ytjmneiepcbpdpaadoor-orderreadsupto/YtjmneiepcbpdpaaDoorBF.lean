import Derived.Test.YtjmneiepcbpdpaaDoorBC
import Derived.Laws.BitsAllLaws
/-! The reader's numbers. -/
namespace Go.Proofs.YtjmneiepcbpdpaaDoor
open Go Go.RowKit

/-- What a reader of values tells. -/
def ValPost (w : World) (r g cap : Nat) (l : List UInt8) (R : Rd Tr) (x : Ending) (w' : World) : Prop :=
  ∃ k x0 s an ln cn ai li ci, x = .returned (.tuple #[.agg #[.int .i64 k, .int .i64 x0, .string s, .slice an ln cn, .slice ai li ci], .int .i64 R.code]) ∧ (∀ t q, R = .ok t q → Seen w' (fun j => w.heap.size ≤ j) t (five k x0 s (.slice an ln cn) (.slice ai li ci))) ∧ At w' r g cap l.length R.place ∧ Fr (· = r) w w'
theorem seen_flat (w : World) (S : Nat → Prop) (k x : Int) (s : ByteArray) : Seen w S (.node k x s [] []) (five k x s (.slice none 0 0) (.slice none 0 0)) := fun W' _ => by
  unfold VRep
  exact ⟨_, none, 0, rfl, ⟨none, 0, rfl, ⟨Nat.le_refl _, by omega⟩, .inl rfl⟩, ⟨Nat.le_refl _, by omega⟩, .inl rfl⟩
theorem take_num {l : List UInt8} {p i : Nat} {b : UInt8} (h : l[p + i]? = some b) : numOf ((l.drop p).take (i + 1)) = numOf ((l.drop p).take i) * 256 + b.toNat := by
  have : (l.drop p)[i]? = some b := by rw [List.getElem?_drop]; exact h
  rw [List.take_add_one, this, Option.toList_some, numOf_app]
theorem take_lt (l : List UInt8) (p i : Nat) (hi : i ≤ 7) : numOf ((l.drop p).take i) < 72057594037927936 := by
  have h1 := numOf_lt ((l.drop p).take i)
  have h2 : ((l.drop p).take i).length ≤ 7 := by rw [List.length_take]; omega
  have h3 : (256 : Nat) ^ ((l.drop p).take i).length ≤ 256 ^ 7 := Nat.pow_le_pow_right (by decide) h2
  have h4 : (256 : Nat) ^ 7 = 72057594037927936 := by decide
  omega
theorem take_lt8 (l : List UInt8) (p : Nat) : numOf ((l.drop p).take 8) < 18446744073709551616 := by
  have h1 := numOf_lt ((l.drop p).take 8)
  have h2 : ((l.drop p).take 8).length ≤ 8 := by rw [List.length_take]; omega
  have h3 : (256 : Nat) ^ ((l.drop p).take 8).length ≤ 256 ^ 8 := Nat.pow_le_pow_right (by decide) h2
  have h4 : (256 : Nat) ^ 8 = 18446744073709551616 := by decide
  omega
theorem or_byte (Z b : Nat) (hZ : Z < 72057594037927936) (hb : b < 2 ^ 8) : bits .or .u64 ((Z : Int) * 256) (b : Int) = ((Z * 256 + b : Nat) : Int) := by
  rw [show ((Z : Int) * 256) = ((Z * 256 : Nat) : Int) by omega, u64_or_nat _ _ (by omega) (by omega)]
  have := Nat.shiftLeft_add_eq_or_of_lt hb Z
  rw [Nat.shiftLeft_eq] at this
  rw [← this]
theorem lifted (Z : Nat) (hZ : Z < 18446744073709551616) : wrap64 (IntKind.u64.wrap ((Z : Int) - 9223372036854775808)) = (Z : Int) - 9223372036854775808 := by
  by_cases h : 9223372036854775808 ≤ Z
  · rw [wraps_u64 _ (by omega) (by omega)]
    unfold wrap64
    omega
  · have e : IntKind.u64.wrap ((Z : Int) - 9223372036854775808) = (Z : Int) + 9223372036854775808 := by
      have h1 : IntKind.u64.wrap ((Z : Int) - 9223372036854775808) = ((Z : Int) - 9223372036854775808) % 18446744073709551616 := rfl
      rw [h1]
      omega
    rw [e]
    unfold wrap64
    omega
set_option maxHeartbeats 4000000 in
set_option maxRecDepth 100000 in
theorem rnum_code (r g cap p : Nat) (l : List UInt8) (w : World) (hB : Base w r g cap l) (h : At w r g cap l.length p) (hp : p ≤ l.length) :
    Calls Tryd.prog 25 #[.pointer (some ⟨r, 0, none⟩)] w (ValPost w r g cap l (numV (numR l p))) := by
  have hlen := hB.len
  have hcap := hB.capl
  have hcm := hB.capm
  have hrl := h.lt
  obtain ⟨R, hR⟩ : ∃ R, Hid (numV (numR l p) = R) := ⟨_, hid_e rfl⟩
  rw [hR.out]
  obtain ⟨y0, y1, yf⟩ := two_cells h
  have x0 := fun o => cell_alloc' y0 o
  have x1 := fun o => cell_alloc' y1 o
  clear y0 y1
  by_cases h8 : l.length - p < 8
  · have hd : decide ((l.length : Int) - (p : Int) < 8) = true := by simp; omega
    have hRe : Hid (R = .no 3 l.length) := by
      rw [Hid, ← hR.out]
      unfold numR
      rw [if_pos h8]
      rfl
    go_enter Tryd.func25, Tryd.ntmps25
    go_wp2_with fail
    go_region
    have hm : Fr (· = r) w (w.alloc (.cells #[.int .i64 0, .int .i64 0, .string ⟨#[]⟩, .slice none 0 0, .slice none 0 0] 25)).drew := ((Fr.refl _ w).alloc _).drewN 1
    have hn : (w.alloc (.cells #[.int .i64 0, .int .i64 0, .string ⟨#[]⟩, .slice none 0 0, .slice none 0 0] 25)).drew.heap[w.heap.size]? = some (.cells #[.int .i64 0, .int .i64 0, .string ⟨#[]⟩, .slice none 0 0, .slice none 0 0] 25 (0, 0)) := heap_alloc_new w _
    have hAt : At (w.alloc (.cells #[.int .i64 0, .int .i64 0, .string ⟨#[]⟩, .slice none 0 0, .slice none 0 0] 25)).drew r g cap l.length p := At.keep (S := fun _ => False) h (((Fr.refl _ w).alloc _).drewN 1) (fun e => e)
    generalize (w.alloc (.cells #[.int .i64 0, .int .i64 0, .string ⟨#[]⟩, .slice none 0 0, .slice none 0 0] 25)).drew = W at hm hn hAt ⊢
    clear x0 x1 yf
    have hf := hid_e (short_code r g cap l.length p W hAt)
    go_wp2_with fail
    go_fit hf.out
    rintro e X ⟨rfl, hA2, hF⟩
    have hF2 := hm.trans hF
    have hn2 := (hF.block w.heap.size (Array.getElem?_eq_some_iff.1 hn).1 (by omega)).trans hn
    clear hf hF hm hn hAt
    obtain ⟨z0, z1, z2, z3, z4, zf⟩ := row_cells hn2
    have zf0 := zf 0; have zf1 := zf 1; have zf2 := zf 2; have zf3 := zf 3; have zf4 := zf 4
    clear zf
    go_wp2_with fail
    have hr5 := put5_cells hn2 (.int .i64 0) (.int .i64 0) (.string ⟨#[]⟩) (.slice none 0 0) (.slice none 0 0)
    have r0 := hr5 0; have r1 := hr5 1; have r2 := hr5 2; have r3 := hr5 3; have r4 := hr5 4
    clear hr5
    refine bodyPost_ret (v := .tuple #[.agg #[.int .i64 0, .int .i64 0, .string ⟨#[]⟩, .slice none 0 0, .slice none 0 0], .int .i64 3]) (by simp [results, Tryd.results25, go_sem, r0, r1, r2, r3, r4]) rfl ?_
    rw [hRe.out]
    exact ⟨_, _, _, _, _, _, _, _, _, rfl, (fun t q e => by cases e), (put5_far _ _ _ _ _ (by omega)).trans hA2, hF2.put5 (.inr (Nat.le_refl _)) _ _ _ _ _⟩
  · have hd : decide ((l.length : Int) - (p : Int) < 8) = false := by simp; omega
    have i1 : (p : Int) + 8 ≤ (cap : Int) := by omega
    have i2 : (p : Int) ≤ (p : Int) + 8 := by omega
    have i3 : (p : Int) + 8 ≤ 9223372036854775807 := by omega
    go_enter Tryd.func25, Tryd.ntmps25
    go_wp2_with fail
    go_region
    go_wp2_with fail
    go_region
    go_wp2_with fail
    go_loopw [4, 36] (fun hv i wr => ∃ (q m : Nat), q ≤ 8 ∧ i = .int .i64 q ∧ hv = .int .u64 ((numOf ((l.drop p).take q) : Nat) : Int) ∧ wr = (w.alloc (.cells #[.int .i64 0, .int .i64 0, .string ⟨#[]⟩, .slice none 0 0, .slice none 0 0] 25)).drewN m) (fun _ i _ => 8 - (intOf i).toNat)
    case atStart => exact ⟨0, 2, by omega, rfl, rfl, rfl⟩
    case round =>
      obtain ⟨q, m, hq, rfl, rfl, rfl⟩ := hrel
      by_cases hlt : q < 8
      · have hlz : (q : Int) < 8 := by omega
        obtain ⟨b, hb⟩ : ∃ b, l[p + q]? = some b := ⟨_, List.getElem?_eq_getElem (by omega)⟩
        have c := fun o => cell_alloc' (hB.row.cell hb) o
        have hn := take_num hb
        have hZ := take_lt l p q (by omega)
        have hb8 := b.toNat_lt
        obtain ⟨Z, hZe⟩ : ∃ Z, numOf ((l.drop p).take q) = Z := ⟨_, rfl⟩
        rw [hZe] at hZ hn ⊢
        go_wp2_with fail
        rw [or_byte Z b.toNat hZ hb8, ← hn]
        exact ⟨⟨q + 1, m, by omega, by go_num, rfl, rfl⟩, by simp [intOf]; omega⟩
      · obtain rfl : q = 8 := by omega
        have hZ := take_lt8 l p
        have hRe : Hid (R = .ok (.node 3 ((numOf ((l.drop p).take 8) : Int) - 9223372036854775808) noS [] []) (p + 8)) := by
          rw [Hid, ← hR.out]
          unfold numR
          rw [if_neg h8]
          rfl
        obtain ⟨Z, hZe⟩ : ∃ Z, numOf ((l.drop p).take 8) = Z := ⟨_, rfl⟩
        rw [hZe] at hZ hRe ⊢
        have hm : Fr (· = r) w ((w.alloc (.cells #[.int .i64 0, .int .i64 0, .string ⟨#[]⟩, .slice none 0 0, .slice none 0 0] 25)).drewN m) := ((Fr.refl _ w).alloc _).drewN m
        have hn : ((w.alloc (.cells #[.int .i64 0, .int .i64 0, .string ⟨#[]⟩, .slice none 0 0, .slice none 0 0] 25)).drewN m).heap[w.heap.size]? = some (.cells #[.int .i64 0, .int .i64 0, .string ⟨#[]⟩, .slice none 0 0, .slice none 0 0] 25 (0, 0)) := heap_alloc_new w _
        have hAt : At ((w.alloc (.cells #[.int .i64 0, .int .i64 0, .string ⟨#[]⟩, .slice none 0 0, .slice none 0 0] 25)).drewN m) r g cap l.length p := At.keep (S := fun _ => False) h (((Fr.refl _ w).alloc _).drewN m) (fun e => e)
        generalize (w.alloc (.cells #[.int .i64 0, .int .i64 0, .string ⟨#[]⟩, .slice none 0 0, .slice none 0 0] 25)).drewN m = W at hm hn hAt ⊢
        clear x0 x1 yf
        obtain ⟨y0, y1, yf⟩ := two_cells hAt
        have yf1 := yf 1
        clear yf
        have hA2 := hAt.set (p + 8)
        have hF2 := hm.set ⟨r, 1, none⟩ (.int .i64 ((p + 8 : Nat) : Int)) (.inl rfl)
        have hn2 : (W.setCell ⟨r, 1, none⟩ (.int .i64 ((p + 8 : Nat) : Int))).heap[w.heap.size]? = some (.cells #[.int .i64 0, .int .i64 0, .string ⟨#[]⟩, .slice none 0 0, .slice none 0 0] 25 (0, 0)) := (Below.heap_setCell _ _ _ _ (show w.heap.size ≠ r by omega)).trans hn
        go_upto_region 10 with fail
        rw [show (p : Int) + 8 = ((p + 8 : Nat) : Int) by omega]
        generalize W.setCell ⟨r, 1, none⟩ (.int .i64 ((p + 8 : Nat) : Int)) = X at hA2 hF2 hn2 ⊢
        clear y0 y1 yf1 hAt hm hn
        go_wp2_with fail
        rw [lifted Z hZ]
        refine (of_any _ _).mono ?_
        rintro e Y ⟨rfl, hY⟩
        have hb := (Below.refl X.heap.size X).alloc (Nat.le_refl _) (.cells #[.int .i64 3, .int .i64 ((Z : Int) - 9223372036854775808), .string ⟨#[]⟩, .slice none 0 0, .slice none 0 0] 25)
        rw [← hY] at hb
        have hA3 := hA2.keep (S := fun _ => False) (Fr.of_below hb) (fun e => e)
        have hF3 := hF2.trans (Fr.of_below hb)
        have hn3 := (hb.block _ (Array.getElem?_eq_some_iff.1 hn2).1).trans hn2
        clear hY hb hA2 hF2 hn2
        obtain ⟨z0, z1, z2, z3, z4, zf⟩ := row_cells hn3
        have zf0 := zf 0; have zf1 := zf 1; have zf2 := zf 2; have zf3 := zf 3; have zf4 := zf 4
        clear zf
        go_wp2_with fail
        have hr5 := put5_cells hn3 (.int .i64 3) (.int .i64 ((Z : Int) - 9223372036854775808)) (.string ⟨#[]⟩) (.slice none 0 0) (.slice none 0 0)
        have r0 := hr5 0; have r1 := hr5 1; have r2 := hr5 2; have r3 := hr5 3; have r4 := hr5 4
        clear hr5
        refine bodyPost_ret (v := .tuple #[.agg #[.int .i64 3, .int .i64 ((Z : Int) - 9223372036854775808), .string ⟨#[]⟩, .slice none 0 0, .slice none 0 0], .int .i64 0]) (by simp [results, Tryd.results25, go_sem, r0, r1, r2, r3, r4]) rfl ?_
        rw [hRe.out]
        refine ⟨_, _, _, _, _, _, _, _, _, rfl, fun t q e => ?_, (put5_far _ _ _ _ _ (by omega)).trans hA3, hF3.put5 (.inr (Nat.le_refl _)) _ _ _ _ _⟩
        cases e
        exact seen_flat _ _ _ _ _
end Go.Proofs.YtjmneiepcbpdpaaDoor
