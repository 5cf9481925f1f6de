import Derived.Test.YtpdcinicnekeoaaWF
import Derived.Laws.MakeOwn
/-! watch: of, fitting, copies. -/
namespace Go.Proofs.Ytpdcinicnekeoaa
open Go Go.RowKit Go.Watch
theorem toList_data (a : ByteArray) : a.toList = a.data.toList := by rw [ByteArray.toList_eq]
theorem bytes_ext {a b : ByteArray} (h : a.toList = b.toList) : a = b := by
  rw [toList_data, toList_data] at h
  cases a; cases b; congr; exact Array.toList_inj.1 h
theorem bytes_ne {a b : ByteArray} (h : a ≠ b) : (a.toList == b.toList) = false := by
  cases e : (a.toList == b.toList) with
  | false => rfl
  | true => exact absurd (bytes_ext (by simpa using e)) h
theorem bytes_empty {a : ByteArray} (h : a ≠ ByteArray.empty) : a.toList.isEmpty = false := by
  rw [Bool.eq_false_iff]
  intro e
  exact h (bytes_ext (by rw [List.isEmpty_iff.1 e, toList_data]; rfl))
def flatC (l : List Chg) : List Value := l.flatMap chgCs
theorem flatC_len : (l : List Chg) → (flatC l).length = l.length * 4
  | [] => rfl
  | e :: l => by
    have := flatC_len l
    unfold flatC at this ⊢
    simp only [List.flatMap_cons, List.length_append, this, chgCs, List.length_cons, List.length_nil]
    omega
theorem flatC_get : (l : List Chg) → (j i : Nat) → i < 4 → (flatC l)[j * 4 + i]? = (l[j]?).bind fun e => (chgCs e)[i]?
  | [], j, i, _ => by simp [flatC]
  | e :: l, 0, i, hi => by
    unfold flatC
    rw [List.flatMap_cons, Nat.zero_mul, Nat.zero_add, List.getElem?_append_left (by simp [chgCs]; omega)]
    rfl
  | e :: l, j + 1, i, hi => by
    have := flatC_get l j i hi
    unfold flatC at this ⊢
    rw [List.flatMap_cons, List.getElem?_append_right (by simp [chgCs]; omega), List.getElem?_cons_succ, ← this]
    congr 1
    simp [chgCs]
    omega
theorem flatC_app (l r : List Chg) : flatC (l ++ r) = flatC l ++ flatC r := by simp [flatC]
theorem flatC_snoc (l : List Chg) (e : Chg) : flatC (l ++ [e]) = flatC l ++ chgCs e := by simp [flatC]
theorem flatC_one (l : List Chg) : ∀ u ∈ flatC l, u.oneCell' = true := fun u hu => by
  unfold flatC at hu
  rw [List.mem_flatMap] at hu
  obtain ⟨e, _, hu⟩ := hu
  simp [chgCs] at hu
  rcases hu with rfl | rfl | rfl | rfl <;> rfl
theorem Rw.chgs {w : World} {lo : Nat} {a : Option Addr} {n cap : Nat} {l : List Chg} (h : Rw w lo 4 a n cap (flatC l)) : ChgsAt (fun b => lo ≤ b) w a l := fun j c hj => by
  have hh : ∀ i, i < 4 → ∀ u, (chgCs c)[i]? = some u → ∃ b o, a = some ⟨b, o, none⟩ ∧ lo ≤ b ∧ w.cell? ⟨b, o + (j * 4 + i), none⟩ = some u := fun i hi u hu => h.cell (by rw [flatC_get l j i hi, hj]; exact hu)
  obtain ⟨b, o, h1, h2, h3⟩ := hh 0 (by decide) _ rfl
  have each : ∀ i, i < 4 → ∀ u, (chgCs c)[i]? = some u → w.cell? ⟨b, o + j * 4 + i, none⟩ = some u := fun i hi u hu => by
    obtain ⟨b', o', e1, -, e3⟩ := hh i hi u hu
    rw [h1] at e1
    cases e1
    rw [show o + j * 4 + i = o + (j * 4 + i) from by omega]
    exact e3
  exact ⟨b, o, h1, h2, each 0 (by decide) _ rfl, each 1 (by decide) _ rfl, each 2 (by decide) _ rfl, each 3 (by decide) _ rfl⟩
theorem ChgsAt.flat {S : Nat → Prop} {w : World} {a : Option Addr} {l : List Chg} (h : ChgsAt S w a l) : ∀ j u, (flatC l)[j]? = some u → ∃ b o, a = some ⟨b, o, none⟩ ∧ w.cell? ⟨b, o + j, none⟩ = some u := fun j u hu => by
  have hj : j = j / 4 * 4 + j % 4 := by omega
  have hm : j % 4 < 4 := Nat.mod_lt _ (by decide)
  rw [hj, flatC_get l _ _ hm] at hu
  cases he : l[j / 4]? with
  | none => rw [he] at hu; cases hu
  | some e =>
    rw [he] at hu
    obtain ⟨b, o, h1, _, h3⟩ := h _ _ he
    refine ⟨b, o, h1, ?_⟩
    rw [hj]
    generalize j % 4 = i at hu hm ⊢
    generalize j / 4 = q at *
    rw [← Nat.add_assoc]
    rcases i with _ | _ | _ | _ | i
    · simp [chgCs] at hu; subst hu; exact h3.st
    · simp [chgCs] at hu; subst hu; exact h3.nm
    · simp [chgCs] at hu; subst hu; exact h3.id
    · simp [chgCs] at hu; subst hu; exact h3.kd
    · omega
theorem chg_info : ∃ ri, Try.prog.info? 30 = some ri ∧ ri.zero = some (.agg #[.int .i64 0, .string ⟨#[]⟩, .string ⟨#[]⟩, .int .i64 0]) ∧ ri.size = 4 ∧ ri.bytes = 48 := by
  have : (Try.prog.info? 30).map (fun i => (i.zero, i.size, i.bytes)) = some (some (.agg #[.int .i64 0, .string ⟨#[]⟩, .string ⟨#[]⟩, .int .i64 0]), 4, 48) := by kernel_rfl
  cases hq : Try.prog.info? 30 with
  | none => rw [hq] at this; cases this
  | some ri => rw [hq] at this; simp at this; exact ⟨ri, rfl, this.1, this.2.1, this.2.2⟩
def roomOf (n : Nat) : Obj := .cells (madeCells #[.int .i64 0, .string ⟨#[]⟩, .string ⟨#[]⟩, .int .i64 0] (n * 4)) 30
theorem make_room (n : Nat) (hc : n * 48 ≤ 281474976710656) (w : World) : (Instr.makeSlice 23 (.int .i64 0) (.int .i64 (n : Int))).run Try.prog w = .ok (.slice (some ⟨w.heap.size, 0, none⟩) 0 n) (w.alloc (roomOf n)) := by
  obtain ⟨i, hi, hz0, hz1, hz2⟩ := chg_info
  have := run_make (P := Try.prog) w 23 30 i _ Try.underlying23 hi hz0 .i64 .i64 0 n (by omega) (by omega) (by rw [hz2]; omega) (by omega)
  rw [this, hz1, Int.toNat_natCast]
  rfl
theorem room_rw (n : Nat) (w : World) (hn : n ≤ maxLen) : Rw (w.alloc (roomOf n)) w.heap.size 4 (some ⟨w.heap.size, 0, none⟩) 0 n [] := by
  refine ⟨rfl, Nat.zero_le _, hn, .inr ⟨w.heap.size, 0, rfl, Nat.le_refl _, by simp, ?_, fun j v h => by simp at h⟩⟩
  exact block_there _ _ _ _ (heap_alloc_new w _) _ (by rw [size_madeCells]; exact Nat.le_refl _)
/-- Copies in new memory. -/
structure CopiesPost (w : World) (l : List Chg) (e : Ending) (w' : World) : Prop where
  bel : Below w.heap.size w w'
  row : ∃ g o, e = .returned (.slice (some ⟨g, o, none⟩) l.length l.length) ∧ Rw w' w.heap.size 4 (some ⟨g, o, none⟩) l.length l.length (flatC l)
theorem Appd.below {w w' : World} {lo size : Nat} {a : Option Addr} {n m cap : Nat} {ys : List Value} {g o c : Nat} {B : Nat} {x : World} (h : Appd w lo size a n m cap ys g o c w') (hb : Below B x w) (hB : B ≤ x.heap.size) (ha : ∀ b, blkOf a b → B ≤ b) : Below B x w' :=
  ⟨h.fr.os.trans hb.os, h.fr.tape.trans hb.tape, h.fr.output.trans hb.output, Nat.le_trans hb.size h.fr.size, fun k hk => (h.fr.block k (Nat.lt_of_lt_of_le (Nat.lt_of_lt_of_le hk hB) hb.size) (fun e => by have := ha k e.1; omega)).trans (hb.block k hk)⟩
set_option maxHeartbeats 2000000 in
set_option maxRecDepth 100000 in
theorem copies_any {S : Nat → Prop} {a : Option Addr} {l : List Chg} {cap : Nat} {w : World} (h : PtrsAt S w a l) (hc : l.length ≤ cap) (hl : l.length ≤ 1048576) :
    Calls Try.prog 26 #[.slice a l.length cap] w (CopiesPost w l) := by
  obtain ⟨ri, hri, hri1, hri2, hri3⟩ := chg_info
  have hpost : Hid (∀ g o w', Below w.heap.size w w' → Rw w' w.heap.size 4 (some ⟨g, o, none⟩) l.length l.length (flatC l) → CopiesPost w l (.returned (.slice (some ⟨g, o, none⟩) l.length l.length)) w') := fun g o w' h1 h2 => ⟨h1, g, o, rfl, h2⟩
  obtain ⟨n, hn⟩ : ∃ n, Hid (l.length = n) := ⟨_, rfl⟩
  rw [hn.out] at hc hl hpost ⊢
  have hmk := make_room n (by omega) w
  obtain ⟨W1, hW1⟩ : ∃ W1, Hid (w.alloc (roomOf n) = W1) := ⟨_, rfl⟩
  have hB1 : Below w.heap.size w W1 := by rw [← hW1.out]; exact (Below.refl _ w).alloc (Nat.le_refl _) _
  have hR1 : Rw W1 w.heap.size 4 (some ⟨w.heap.size, 0, none⟩) 0 n [] := by rw [← hW1.out]; exact room_rw n w (by unfold maxLen; omega)
  replace h := hid_of h
  replace hB1 := hid_of hB1
  replace hR1 := hid_of hR1
  go_enter Try.func26, Try.ntmps26
  go_wp2_with (rw [hW1.out])
  clear hmk hW1
  go_loopw [3, 11] (fun sv iv wr => ∃ i g o : Nat, iv = .int .i64 (i : Nat) ∧ sv = .slice (some ⟨g, o, none⟩) i n ∧ i ≤ n ∧ Hid (Below w.heap.size w wr) ∧ Hid (Rw wr w.heap.size 4 (some ⟨g, o, none⟩) i n (flatC (l.take i)))) (fun _ iv _ => n - (intOf iv).toNat)
  case atStart => exact ⟨0, w.heap.size, 0, rfl, rfl, Nat.zero_le _, hB1, hR1⟩
  case round =>
    clear hB1 hR1
    obtain ⟨i, g, o, rfl, rfl, hin, hB, hR⟩ := hrel
    by_cases hi : i < n
    · obtain ⟨⟨cst, cnm, cid, ckd⟩, hce⟩ : ∃ c, l[i]? = some c := ⟨_, List.getElem?_eq_getElem (by rw [hn.out]; exact hi)⟩
      obtain ⟨b1, o1, g1, rfl, -, -, h4, h5⟩ := h.out i _ hce
      replace h4 := stay hB.out h4
      have h5' := h5.keep (hB.out.block _ h5.lt)
      have d0 := h5'.st
      have d1 := h5'.nm
      have d2 := h5'.id
      have d3 := h5'.kd
      simp only [Nat.zero_add] at d0 d1 d2 d3
      obtain ⟨W2, hW2⟩ : ∃ W2, Hid (wr.alloc (.cells #[.int .i64 cst, .string cnm, .string cid, .int .i64 ckd] 30) = W2) := ⟨_, rfl⟩
      have hB2 : Below wr.heap.size wr W2 := by rw [← hW2.out]; exact (Below.refl _ wr).alloc (Nat.le_refl _) _
      have hB02 : Below w.heap.size w W2 := hB.out.trans (hB2.mono hB.out.size)
      have hsrc : Src Try.prog 4 23 (.slice (some ⟨wr.heap.size, 0, none⟩) 1 1) 1 (chgCs ⟨cst, cnm, cid, ckd⟩) W2 := by
        rw [← hW2.out]
        exact Src.of_block (cs := #[.int .i64 cst, .string cnm, .string cid, .int .i64 ckd]) Try.underlying23 (heap_alloc_new wr _) 1 1 rfl (fun u hu => flatC_one [⟨cst, cnm, cid, ckd⟩] u (by simpa [flatC, chgCs] using hu))
      have x0 := hid_of (hR.out.below hB2)
      have x6 : Hid (i + 1 ≤ maxLen ∧ (i + 1) * 48 ≤ 140737488355328 ∧ w.heap.size ≤ W2.heap.size) := by
        have := hB02.size
        unfold maxLen
        exact ⟨by omega, by omega, by omega⟩
      have hmap : Hid (flatC (l.take (i + 1)) = flatC (l.take i) ++ chgCs ⟨cst, cnm, cid, ckd⟩) := by
        show _ = _
        rw [List.take_add_one, hce]
        exact flatC_snoc _ _
      have hfin : Hid (∀ g2 o2 c2 W3, Appd W2 w.heap.size 4 (some ⟨g, o, none⟩) i 1 n (flatC (l.take i) ++ chgCs ⟨cst, cnm, cid, ckd⟩) g2 o2 c2 W3 → c2 = n ∧ Hid (Below w.heap.size w W3) ∧ Hid (Rw W3 w.heap.size 4 (some ⟨g2, o2, none⟩) (i + 1) n (flatC (l.take (i + 1))))) := fun g2 o2 c2 W3 hA => by
        have hc2 : c2 = n := by
          rcases hA.at' with ⟨-, h1, -⟩ | ⟨-, -, h1⟩
          · exact h1
          · omega
        subst hc2
        refine ⟨rfl, hA.below hB02 (Nat.le_refl _) (fun b hb => ?_), by rw [hmap.out]; exact hA.row⟩
        obtain ⟨o3, s3, e3⟩ := hb
        cases e3
        rcases hR.out.pt with h0 | ⟨b4, o4, e4, l4, -⟩
        · omega
        · cases e4; exact l4
      clear h5 h5' hB2 hB02 hce hR hB
      go_wp2_with (first
        | rw [hW2.out]
        | (at_builtin; go_must (refine wpList_append_rw W2 rfl _ _ 23 rfl 30 ri _ 4 48 Try.underlying23 hri hri1 hri2 hri3 rfl w.heap.size (some ⟨g, o, none⟩) i n (flatC (l.take i)) rfl x0.out.len x0.out.le x0.out.mx x0.out.rd _ rfl 1 (chgCs ⟨cst, cnm, cid, ckd⟩) hsrc (fun _ => x0.out) (by decide) x6.out.1 x6.out.2.1 x6.out.2.2 ?_); intro g2 o2 c2 W3 hA; obtain ⟨hc2, hB3, hR3⟩ := hfin.out g2 o2 c2 W3 hA; subst hc2; clear hA hsrc hfin x0))
      go_roundw
      case rel => exact ⟨i + 1, g2, o2, by go_num, by go_num, by omega, hB3, hR3⟩
      case measure =>
        simp only [intOf]
        omega
    · obtain rfl : i = n := by omega
      have hfin : Hid (CopiesPost w l (.returned (.slice (some ⟨g, o, none⟩) i i)) wr) := by
        have := hR.out
        rw [List.take_of_length_le (by rw [hn.out]; exact Nat.le_refl _)] at this
        exact hpost.out g o wr hB.out this
      go_wp2_with fail
      go_ret
      exact hfin.out
end Go.Proofs.Ytpdcinicnekeoaa
