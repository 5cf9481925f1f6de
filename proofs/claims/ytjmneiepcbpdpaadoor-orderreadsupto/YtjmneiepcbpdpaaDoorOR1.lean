import Derived.Test.YtjmneiepcbpdpaaDoorDF
import Derived.Test.YtjmneiepcbpdpaaDoorN1
import Derived.Test.YtjmneiepcbpdpaaDoorL6
import Derived.Laws.OwnMore
/-! Every bytes as a value: the walk. -/
namespace Go.Proofs.YtjmneiepcbpdpaaDoor
open Go Go.RowKit

def mark : List UInt8 := [1, 2, 3]
theorem own_pre {w : World} {lo g n cap : Nat} {l m : List UInt8} (h : w.ownsRow lo 5 1 (.slice (some ⟨g, 0, none⟩) n cap) n (Lib.byteCells (l ++ m))) : RowB w g l := by
  refine ⟨(ownsRow_ge h (g := g) rfl).2, fun j hj => ?_⟩
  have e : (Lib.byteCells (l ++ m))[j]? = (Lib.byteCells l)[j]? := by
    rw [Lib.byteCells_append, List.getElem?_append_left (by unfold Lib.byteCells; simpa using hj)]
  obtain ⟨v, hv⟩ : ∃ v, (Lib.byteCells l)[j]? = some v := ⟨_, List.getElem?_eq_getElem (by unfold Lib.byteCells; simpa using hj)⟩
  rw [hv]
  exact row_cell h j v (by rw [e, hv])
theorem small_out {l : List UInt8} (hl : l.length ≤ 1000000000) : SmallT (outT (fromR l)) := by
  cases hF : fromR l with
  | no e q =>
    show SmallT flatT
    unfold flatT SmallT
    exact ⟨by decide, by decide, (fun _ h => by cases h), by decide, by unfold SmallL; trivial⟩
  | ok t q =>
    obtain ⟨s1, s2, s3⟩ := from_sound hF
    exact small_key t 0 s2 (by rw [← s1]; exact hl)
/-- Two values of one tree are equal. -/
theorem same_out {t : Tr} {cs cs' : List Value} {W : World} (hs : SmallT t) (h1 : VRep W t cs) (h2 : VRep W t cs') : Calls Tryd.prog 10 #[.agg cs.toArray, .agg cs'.toArray] W fun e w' => e = .returned (.bool true) ∧ Below W.heap.size W w' := by
  have := equal_any t t cs cs' W h1 h2 hs
  rw [eqT_true rfl] at this
  exact this
theorem bytes_set (l : List UInt8) (i : Nat) : (Lib.byteCells l).set i (.int .u8 238) = Lib.byteCells (l.set i 238) := by
  unfold Lib.byteCells
  rw [List.map_set]
  rfl
set_option maxHeartbeats 8000000 in
set_option maxRecDepth 100000 in
theorem reads_true (a : Option Addr) (c : Nat) (l : List UInt8) (w : World) (hA : Hid (BArg w a c l)) (hl : l.length ≤ 1000000000) (hU : Hid (Lib.Utf8Tabs 1 2 w)) (h8 : 3 ≤ w.heap.size) :
    Calls Tryd.prog 4 #[.slice a l.length c] w fun e w' => e = .returned (.bool true) ∧ Below w.heap.size w w' := by
  have hlive := fun W (hW : Below w.heap.size w W) => hid_e (live_true W (utf_below hU.out hW h8) (Nat.le_trans h8 hW.size))
  have hAW := fun W (hW : Below w.heap.size w W) => hid_e (hA.out.keep hW)
  have hout := fun W (hW : Below w.heap.size w W) g cap (h : RowB W g l) (h1 : l.length ≤ cap) (h2 : cap ≤ 9223372036854775807) => hid_e (out_code g cap l W h h1 h2 hl (utf_below hU.out hW h8) (Nat.le_trans h8 hW.size))
  have hdoc := fun W (hW : Below w.heap.size w W) => hid_e (dfrom_code a c l W (hAW W hW) hl)
  have hsm := hid_e (small_out hl)
  obtain ⟨i5, hi5, hz0, hz1, hz2⟩ := info_parts Z5
  obtain ⟨FR, hFR⟩ : ∃ F, Hid (fromR l = F) := ⟨_, hid_e rfl⟩
  rw [hFR.out] at hsm
  go_enter Tryd.func4, Tryd.ntmps4
  go_upto_region 1 with fail
  have hb1 := hAW (w.alloc (.cells #[] 5)) ((Below.refl _ w).alloc (Nat.le_refl _) _)
  have hbd : l.length + 3 ≤ maxLen ∧ (l.length + 3) * 1 ≤ 140737488355328 := by unfold maxLen; omega
  go_upto_region 2 with (first | (at_builtin; refine list_append_bytes _ rfl _ _ rfl w.heap.size _ [] rfl (owns_none w) a l.length c l rfl rfl hb1.out.src (by simp only [List.length_nil]; omega) (by rw [World.size_alloc]; omega) ?_; intro kv W1 ho1 hgr1 hat1; rw [List.nil_append] at ho1; obtain ⟨kva, kvc, rfl⟩ := ownsRow_slice ho1; have hB1 : Below w.heap.size w W1 := ((Below.refl _ w).alloc (Nat.le_refl _) _).trans (grown_below hgr1 (by rw [World.size_alloc]; omega) (fun g hg => by cases hg; exact Nat.le_refl _)); replace ho1 := hid_e ho1; replace hB1 := hid_e hB1; have hlo : Hid (w.heap.size ≤ (W1.alloc (.cells #[.int .u8 1, .int .u8 2, .int .u8 3] 5)).heap.size) := (by rw [Hid, World.size_alloc]; have := hB1.out.size; omega); clear hgr1 hat1 hb1) | (at_builtin; refine wpList_append_lies _ rfl _ _ 26 rfl w.heap.size 5 i5 _ 1 1 Tryd.underlying26 hi5 hz0 hz1 hz2 rfl (by decide) _ l.length _ rfl (ho1.out.alloc _) ⟨W1.heap.size, 0, none⟩ 3 3 [.int .u8 1, .int .u8 2, .int .u8 3] rfl rfl (World.news_of_block (heap_alloc_new W1 (.cells #[.int .u8 1, .int .u8 2, .int .u8 3] 5))) (fun u hu => by simp only [List.mem_cons, List.not_mem_nil, or_false] at hu; rcases hu with rfl | rfl | rfl <;> rfl) (by decide) hbd.1 hbd.2 hlo.out _ rfl ?_; intro g cp W2 ho2 hgr2 hat2 hlt2; have hB2 : Below w.heap.size w W2 := (hB1.out.alloc hB1.out.size _).trans (grown_below hgr2 (by rw [World.size_alloc]; have := hB1.out.size; omega) (fun g hg => (ownsRow_ge ho1.out hg).1)); replace hB2 := hid_e hB2; replace ho2 : Hid (W2.ownsRow w.heap.size 5 1 (.slice (some ⟨g, 0, none⟩) (l.length + 3) cp) (l.length + 3) (Lib.byteCells (l ++ mark))) := (by rw [Hid, Lib.byteCells_append]; exact ho2); clear hgr2 hat2 hlt2))
  clear ho1 hB1 hlo hbd
  have hcp := row_cap ho2.out
  have hglo := (ownsRow_ge ho2.out (g := g) rfl).1
  have hglt := (ownsRow_ge ho2.out (g := g) rfl).2
  have c1 : (l.length : Int) ≤ (cp : Int) := by omega
  have hf1 := hout W2 hB2.out g cp (own_pre ho2.out) (by omega) hcp.2
  rw [hFR.out] at hf1
  go_wp2_with fail
  go_fit hf1.out
  clear hf1
  rintro e W3 ⟨ka, xa, sa, ana, lna, cna, aia, lia, cia, rfl, hsa, hb3⟩
  have hB3 := hid_e (hB2.out.trans (hb3.mono hB2.out.size))
  have ho3 := hid_e (ownsRow_below ho2.out hb3)
  have hgs3 := hb3.size
  clear ho2 hB2
  have qa := heap_alloc_new W3 (.cells #[.int .i64 ka, .int .i64 xa, .string sa, .slice ana lna cna, .slice aia lia cia] 25)
  have hB4 := hid_e (hB3.out.alloc hB3.out.size (.cells #[.int .i64 ka, .int .i64 xa, .string sa, .slice ana lna cna, .slice aia lia cia] 25))
  have ho4 := hid_e (ho3.out.alloc (.cells #[.int .i64 ka, .int .i64 xa, .string sa, .slice ana lna cna, .slice aia lia cia] 25))
  have hsa4 := hid_e (hsa.keep ((Below.refl _ W3).alloc (Nat.le_refl _) (.cells #[.int .i64 ka, .int .i64 xa, .string sa, .slice ana lna cna, .slice aia lia cia] 25)))
  have hs4 : W3.heap.size + 1 = (W3.alloc (.cells #[.int .i64 ka, .int .i64 xa, .string sa, .slice ana lna cna, .slice aia lia cia] 25)).heap.size := by rw [World.size_alloc]
  replace hs4 := hid_e hs4
  clear hsa hB3 ho3
  go_upto_region 3 with fail
  obtain ⟨Ba, hBa⟩ : ∃ z, Hid (W3.heap.size = z) := ⟨_, hid_e rfl⟩
  rw [hBa.out] at qa hs4 ⊢
  generalize W3.alloc (.cells #[.int .i64 ka, .int .i64 xa, .string sa, .slice ana lna cna, .slice aia lia cia] 25) = W4 at qa hB4 ho4 hsa4 hs4 ⊢
  have hf2 := hdoc W4 hB4.out
  rw [hFR.out] at hf2
  go_wp2_with fail
  go_fit hf2.out
  clear hf2
  rintro e W5 ⟨kb, xb, sb, anb, lnb, cnb, aib, lib, cib, rfl, hsb, hb5⟩
  have hB5 := hid_e (hB4.out.trans (hb5.mono hB4.out.size))
  have ho5 := hid_e (ownsRow_below ho4.out hb5)
  have qa5 := (hb5.block _ (Array.getElem?_eq_some_iff.1 qa).1).trans qa
  have hsa5 := hid_e (hsa4.out.keep hb5)
  have hgs5 := hb5.size
  clear qa hB4 ho4 hsa4 hb5
  have qb := heap_alloc_new W5 (.cells #[.int .i64 kb, .int .i64 xb, .string sb, .slice anb lnb cnb, .slice aib lib cib] 25)
  have qa6 := (Below.heap_alloc W5 (.cells #[.int .i64 kb, .int .i64 xb, .string sb, .slice anb lnb cnb, .slice aib lib cib] 25) _ (Array.getElem?_eq_some_iff.1 qa5).1).trans qa5
  have hB6 := hid_e (hB5.out.alloc hB5.out.size (.cells #[.int .i64 kb, .int .i64 xb, .string sb, .slice anb lnb cnb, .slice aib lib cib] 25))
  have ho6 := hid_e (ho5.out.alloc (.cells #[.int .i64 kb, .int .i64 xb, .string sb, .slice anb lnb cnb, .slice aib lib cib] 25))
  have hsa6 := hid_e (hsa5.out.keep ((Below.refl _ W5).alloc (Nat.le_refl _) (.cells #[.int .i64 kb, .int .i64 xb, .string sb, .slice anb lnb cnb, .slice aib lib cib] 25)))
  have hsb6 := hid_e (hsb.keep ((Below.refl _ W5).alloc (Nat.le_refl _) (.cells #[.int .i64 kb, .int .i64 xb, .string sb, .slice anb lnb cnb, .slice aib lib cib] 25)))
  have hs6 : Hid (W5.heap.size + 1 = (W5.alloc (.cells #[.int .i64 kb, .int .i64 xb, .string sb, .slice anb lnb cnb, .slice aib lib cib] 25)).heap.size) := by rw [Hid, World.size_alloc]
  clear hsb hB5 ho5 qa5 hsa5
  go_upto_region 4 with fail
  obtain ⟨Bb, hBb⟩ : ∃ z, Hid (W5.heap.size = z) := ⟨_, hid_e rfl⟩
  rw [hBb.out] at qb hs6 ⊢
  generalize W5.alloc (.cells #[.int .i64 kb, .int .i64 xb, .string sb, .slice anb lnb cnb, .slice aib lib cib] 25) = W6 at qb qa6 hB6 ho6 hsa6 hsb6 hs6 ⊢
  have hf3 := hout W6 hB6.out g cp (own_pre ho6.out) (by omega) hcp.2
  rw [hFR.out] at hf3
  go_wp2_with fail
  go_fit hf3.out
  clear hf3
  rintro e W7 ⟨kc, xc, sc, anc, lnc, cnc, aic, lic, cic, rfl, hsc, hb7⟩
  have hB7 := hid_e (hB6.out.trans (hb7.mono hB6.out.size))
  have ho7 := hid_e (ownsRow_below ho6.out hb7)
  have qa7 := (hb7.block _ (Array.getElem?_eq_some_iff.1 qa6).1).trans qa6
  have qb7 := (hb7.block _ (Array.getElem?_eq_some_iff.1 qb).1).trans qb
  have hsa7 := hid_e (hsa6.out.keep hb7)
  have hsb7 := hid_e (hsb6.out.keep hb7)
  have hgs7 := hb7.size
  clear qa6 qb hB6 ho6 hsa6 hsb6 hb7
  have qc := heap_alloc_new W7 (.cells #[.int .i64 kc, .int .i64 xc, .string sc, .slice anc lnc cnc, .slice aic lic cic] 25)
  have qa8 := (Below.heap_alloc W7 (.cells #[.int .i64 kc, .int .i64 xc, .string sc, .slice anc lnc cnc, .slice aic lic cic] 25) _ (Array.getElem?_eq_some_iff.1 qa7).1).trans qa7
  have qb8 := (Below.heap_alloc W7 (.cells #[.int .i64 kc, .int .i64 xc, .string sc, .slice anc lnc cnc, .slice aic lic cic] 25) _ (Array.getElem?_eq_some_iff.1 qb7).1).trans qb7
  have hB8 := hid_e (hB7.out.alloc hB7.out.size (.cells #[.int .i64 kc, .int .i64 xc, .string sc, .slice anc lnc cnc, .slice aic lic cic] 25))
  have ho8 := hid_e (ho7.out.alloc (.cells #[.int .i64 kc, .int .i64 xc, .string sc, .slice anc lnc cnc, .slice aic lic cic] 25))
  have hsa8 := hid_e (hsa7.out.keep ((Below.refl _ W7).alloc (Nat.le_refl _) (.cells #[.int .i64 kc, .int .i64 xc, .string sc, .slice anc lnc cnc, .slice aic lic cic] 25)))
  have hsb8 := hid_e (hsb7.out.keep ((Below.refl _ W7).alloc (Nat.le_refl _) (.cells #[.int .i64 kc, .int .i64 xc, .string sc, .slice anc lnc cnc, .slice aic lic cic] 25)))
  have hsc8 := hid_e (hsc.keep ((Below.refl _ W7).alloc (Nat.le_refl _) (.cells #[.int .i64 kc, .int .i64 xc, .string sc, .slice anc lnc cnc, .slice aic lic cic] 25)))
  have hs8 : Hid (W7.heap.size + 1 = (W7.alloc (.cells #[.int .i64 kc, .int .i64 xc, .string sc, .slice anc lnc cnc, .slice aic lic cic] 25)).heap.size) := by rw [Hid, World.size_alloc]
  clear hsc hB7 ho7 qa7 qb7 hsa7 hsb7
  go_upto_region 5 with fail
  obtain ⟨Bc, hBc⟩ : ∃ z, Hid (W7.heap.size = z) := ⟨_, hid_e rfl⟩
  rw [hBc.out] at qc hs8 ⊢
  generalize W7.alloc (.cells #[.int .i64 kc, .int .i64 xc, .string sc, .slice anc lnc cnc, .slice aic lic cic] 25) = W8 at qc qa8 qb8 hB8 ho8 hsa8 hsb8 hsc8 hs8 ⊢
  obtain ⟨CD, hCD⟩ : ∃ z : Int, FR.code = z := ⟨_, rfl⟩
  obtain ⟨PL, hPL⟩ : ∃ z : Int, (FR.place : Int) = z := ⟨_, rfl⟩
  rw [hCD, hPL]
  clear hCD hPL
  have hq1 := fun W (hW : Below W8.heap.size W8 W) => hid_e (same_out hsm.out ((hsa8.out.keep hW).rep) ((hsb8.out.keep hW).rep))
  have hq2 := fun W (hW : Below W8.heap.size W8 W) => hid_e (same_out hsm.out ((hsc8.out.keep hW).rep) ((hsb8.out.keep hW).rep))
  obtain ⟨a0, a1, a2, a3, a4, -⟩ := row_cells qa8
  obtain ⟨b0, b1, b2, b3, b4, -⟩ := row_cells qb8
  go_wp2_with (go_at_call 8; refine (num_any _ _).mono ?_; rintro e w' ⟨rfl, hw⟩; replace hw := hw.symm; subst hw)
  clear a0 a1 a2 a3 a4 b0 b1 b2 b3 b4
  go_fit (hq1 W8 (Below.refl _ _)).out
  rintro e W9 ⟨rfl, hb9⟩
  have qb9 := (hb9.block _ (Array.getElem?_eq_some_iff.1 qb8).1).trans qb8
  have qc9 := (hb9.block _ (Array.getElem?_eq_some_iff.1 qc).1).trans qc
  obtain ⟨b0, b1, b2, b3, b4, -⟩ := row_cells qb9
  obtain ⟨c0, c1', c2, c3, c4, -⟩ := row_cells qc9
  go_wp2_with fail
  clear b0 b1 b2 b3 b4 c0 c1' c2 c3 c4
  go_fit (hq2 W9 hb9).out
  rintro e W10 ⟨rfl, hb10⟩
  have hbA : Below W8.heap.size W8 W10 := hb9.trans (hb10.mono hb9.size)
  have hB10 := hid_e (hB8.out.trans (hbA.mono hB8.out.size))
  have ho10 := hid_e (ownsRow_below ho8.out hbA)
  have qb10 := (hb10.block _ (Array.getElem?_eq_some_iff.1 qb9).1).trans qb9
  have qc10 := (hb10.block _ (Array.getElem?_eq_some_iff.1 qc9).1).trans qc9
  have hsb10 := hid_e (hsb8.out.keep hbA)
  have hsc10 := hid_e (hsc8.out.keep hbA)
  have hgs10 := hbA.size
  clear hb9 hb10 qb9 qc9 qa8 qb8 qc hB8 ho8 hsa8 hsb8 hsc8 hq1 hq2 hbA
  have cv1 := (hAW W10 hB10.out).out.conv
  have ho10' : Hid (W10.ownsRow w.heap.size 5 1 (.slice (some ⟨g, 0, none⟩) (l ++ mark).length cp) (l ++ mark).length (Lib.byteCells (l ++ mark))) := by
    rw [Hid, List.length_append]; exact ho10.out
  have cv2 : (convert 26 9 (.slice (some ⟨g, 0, none⟩) (l.length + 3) cp)).run Tryd.prog W10 = .ok (.string ⟨(l ++ mark).toArray⟩) W10 := by
    have := own_conv ho10'.out
    rw [List.length_append] at this
    exact this
  have hcat : ((⟨(l ++ mark).toArray⟩ : ByteArray).toList == ((⟨l.toArray⟩ : ByteArray) ++ (⟨#[1, 2, 3]⟩ : ByteArray)).toList) = true := by
    rw [str_beq, decide_eq_true_eq]
    refine ByteArray.ext ?_
    rw [ByteArray.data_append]
    simp [mark]
  have hsz : (⟨l.toArray⟩ : ByteArray).size + (⟨#[1, 2, 3]⟩ : ByteArray).size ≤ 9223372036854775807 := by
    show l.toArray.size + 3 ≤ _
    rw [List.size_toArray]
    omega
  obtain ⟨S1, hS1⟩ : ∃ z : ByteArray, Hid ((⟨l.toArray⟩ : ByteArray) = z) := ⟨_, hid_e rfl⟩
  obtain ⟨S2, hS2⟩ : ∃ z : ByteArray, Hid ((⟨(l ++ mark).toArray⟩ : ByteArray) = z) := ⟨_, hid_e rfl⟩
  rw [hS1.out] at cv1 hcat hsz
  rw [hS2.out] at cv2 hcat
  clear ho10'
  go_wp2_with fail
  clear cv1 cv2 hcat hsz
  go_loopw [13] (fun iv wr => ∃ i : Nat, i ≤ l.length ∧ iv = .int .i64 i ∧ ∃ l' : List UInt8, l'.length = l.length + 3 ∧ Hid (wr.ownsRow w.heap.size 5 1 (.slice (some ⟨g, 0, none⟩) (l.length + 3) cp) (l.length + 3) (Lib.byteCells l')) ∧ Hid (Fr (· = g) W10 wr)) (fun iv _ => l.length - (intOf iv).toNat)
  case atStart => exact ⟨0, Nat.zero_le _, rfl, l ++ mark, by rw [List.length_append]; rfl, ho10, hid_e (Fr.refl _ _)⟩
  case round =>
    clear ho10
    obtain ⟨i, hi, rfl, l', hl', hO, hF⟩ := hrel
    by_cases hlt : i < l.length
    · have i1 : (i : Int) < (l.length : Int) := by omega
      have i2 : (i : Int) < (l.length : Int) + 3 := by omega
      have hca : wr.cell? ⟨g, i, none⟩ = some (.int .u8 (l'[i]'(by omega)).toNat) := by
        rw [World.ownsRow.cellAt hO.out i (by omega)]
        unfold Lib.byteCells
        rw [List.getElem?_map, List.getElem?_eq_getElem (by omega)]
        rfl
      have hfz := World.ownsRow.frozenAt hO.out i
      have hst := World.ownsRow.stored hO.out i (.int .u8 238)
      rw [bytes_set] at hst
      have hO2 := hid_e hst.1
      have hF2 := hid_e (hF.out.set ⟨g, i, none⟩ (.int .u8 238) (.inl rfl))
      clear hst
      go_wp2_with fail
      clear hca hfz
      go_roundw
      case rel => exact ⟨i + 1, by omega, by go_num, l'.set i 238, by rw [List.length_set]; exact hl', hO2, hF2⟩
      case measure => simp [intOf]; omega
    · obtain rfl : i = l.length := by omega
      have hgb : g ≠ Bb ∧ g ≠ Bc := by
        have h1 := hBa.out; have h2 := hBb.out; have h3 := hBc.out; have h4 := hs4.out; have h6 := hs6.out; have h8' := hs8.out
        omega
      have qbr := (hF.out.block _ (Array.getElem?_eq_some_iff.1 qb10).1 (fun e => hgb.1 e.symm)).trans qb10
      have qcr := (hF.out.block _ (Array.getElem?_eq_some_iff.1 qc10).1 (fun e => hgb.2 e.symm)).trans qc10
      have hBr := hid_e (hB10.out.trans (hF.out.below (by have := hB10.out.size; omega) (fun i e => by omega)))
      have hsbr : VRep wr (outT FR) (five kb xb sb (.slice anb lnb cnb) (.slice aib lib cib)) := hsb10.out wr ⟨hF.out.size, fun p v hp hc => hF.out.cell hc (by have h4 := hs4.out; have h1 := hBa.out; omega)⟩
      have hscr : VRep wr (outT FR) (five kc xc sc (.slice anc lnc cnc) (.slice aic lic cic)) := hsc10.out wr ⟨hF.out.size, fun p v hp hc => hF.out.cell hc (by have h4 := hs4.out; have h1 := hBa.out; have h6 := hs6.out; have h2 := hBb.out; omega)⟩
      have hqf := hid_e (same_out hsm.out hscr hsbr)
      obtain ⟨b0, b1, b2, b3, b4, -⟩ := row_cells qbr
      obtain ⟨c0, c1', c2, c3, c4, -⟩ := row_cells qcr
      go_wp2_with fail
      clear b0 b1 b2 b3 b4 c0 c1' c2 c3 c4
      go_fit hqf.out
      rintro e X1 ⟨rfl, hbx⟩
      have hBx := hid_e (hBr.out.trans (hbx.mono hBr.out.size))
      go_wp2_with fail
      go_fit (hlive _ hBx.out).out
      rintro e X2 ⟨rfl, hby⟩
      go_wp2_with fail
      go_ret
      exact ⟨rfl, hBx.out.trans (hby.mono hBx.out.size)⟩
end Go.Proofs.YtjmneiepcbpdpaaDoor
