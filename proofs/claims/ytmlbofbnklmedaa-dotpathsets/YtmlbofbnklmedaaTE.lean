import Derived.Test.YtmlbofbnklmedaaTA
import Derived.Test.YtmlbofbnklmedaaTB
import Derived.Test.YtmlbofbnklmedaaTC
import Derived.Test.YtmlbofbnklmedaaTD
import Derived.Test.YtmlbofbnklmedaaS16
/-! The document's Unset of every value. -/
namespace Go.Proofs.Ytmlbofbnklmedaa
open Go Go.RowKit

theorem uns_miss {t : Tr} {s : ByteArray} {r : List ByteArray} (h : placeB t.kind t.names t.items.length s = false) : unsB t (s :: r) = false ∧ unsR t (s :: r) = t := by
  have e : unsB t (s :: r) = false := by unfold unsB; rw [getT_none h]; rfl
  refine ⟨e, ?_⟩
  unfold unsR
  rw [e, if_neg (by decide)]
theorem uns_last {t u : Tr} {s : ByteArray} {i : Nat} (h : placeB t.kind t.names t.items.length s = true) (hi : placeI t.kind t.names s = i) (hu : t.items[i]? = some u) : unsB t [s] = true ∧ unsR t [s] = outT t.kind t.names t.items i := by
  have e : unsB t [s] = true := by unfold unsB; rw [getT_some h hi hu]; rfl
  refine ⟨e, ?_⟩
  unfold unsR
  rw [e, if_pos rfl]
  show delT t s = _
  unfold delT
  rw [hi, Int.toNat_natCast]
theorem uns_more {t u : Tr} {s : ByteArray} {r : List ByteArray} {i : Nat} (h : placeB t.kind t.names t.items.length s = true) (hi : placeI t.kind t.names s = i) (hu : t.items[i]? = some u) (hr : 0 < r.length) : unsB t (s :: r) = unsB u r ∧ unsR t (s :: r) = if unsB u r = true then withT t.kind t.names t.items s i (unsR u r) else t := by
  cases r with
  | nil => simp at hr
  | cons q r =>
    have e : unsB t (s :: q :: r) = unsB u (q :: r) := by unfold unsB; rw [getT_some h hi hu]; rfl
    refine ⟨e, ?_⟩
    unfold unsR
    rw [e]
    cases hb : unsB u (q :: r) with
    | false => rw [if_neg (by decide), if_neg (by decide)]
    | true =>
      rw [if_pos rfl, if_pos rfl, if_pos rfl]
      have hit : itemOr t s = u := by unfold itemOr; rw [placeT_some h hi]; simp [List.getD_eq_getElem?_getD, hu]
      rw [rdelT, hit]
      unfold putT
      rw [placeT_some h hi]
      rfl
set_option maxHeartbeats 4000000 in
set_option maxRecDepth 100000 in
theorem runset_nil (k x : Int) (tx : ByteArray) (an : Option Addr) (ln cn : Nat) (ai : Option Addr) (li ci : Nat) (a : Option Addr) (c : Nat) (t : Tr) (w0 w : World) (h0 : Below w0.heap.size w0 w) (hV : Hid (VRep w0 t (five k x tx (.slice an ln cn) (.slice ai li ci)))) :
    Calls Try.prog 21 #[.agg #[.int .i64 k, .int .i64 x, .string tx, .slice an ln cn, .slice ai li ci], .slice a 0 c] w (RU w0 w false t) := by
  have hT := an_new w #[.int .i64 k, .int .i64 x, .string tx, .slice an ln cn, .slice ai li ci]
  go_enter Try.func21, Try.ntmps21
  go_upto_region 1 with fail
  generalize (w.alloc (.cells #[.int .i64 k, .int .i64 x, .string tx, .slice an ln cn, .slice ai li ci] 25)).alloc (.cells #[.int .i64 0, .int .i64 0, .string ⟨#[]⟩, .slice none 0 0, .slice none 0 0] 25) = X0 at hT ⊢
  have hse := hid_e (seen_all (w := w) (h0.trans (hT.below.mono h0.size)) hV.out)
  obtain ⟨y0, y1, y2, y3, y4, -⟩ := row_cells hT.one
  obtain ⟨z0, z1, z2, z3, z4, zf⟩ := row_cells hT.two
  have zf0 := zf 0; have zf1 := zf 1; have zf2 := zf 2; have zf3 := zf 3; have zf4 := zf 4
  clear zf
  go_wp2_with fail
  obtain ⟨hfe, hbe⟩ := nest_end hT h0.size hse.out (.int .i64 k) (.int .i64 x) (.string tx) (.slice an ln cn) (.slice ai li ci)
  have hr5 := put5_cells hT.two (.int .i64 k) (.int .i64 x) (.string tx) (.slice an ln cn) (.slice ai li ci)
  have r0 := hr5 0; have r1 := hr5 1; have r2 := hr5 2; have r3 := hr5 3; have r4 := hr5 4
  clear hr5
  refine bodyPost_ret (v := .tuple #[.agg #[.int .i64 k, .int .i64 x, .string tx, .slice an ln cn, .slice ai li ci], .bool false]) (by simp [results, Try.results21, go_sem, r0, r1, r2, r3, r4]) rfl ?_
  exact ⟨_, _, _, _, _, _, _, _, _, rfl, hfe, hbe⟩
theorem runset_any (w0 : World) : (l : List ByteArray) → (t : Tr) → (cs : List Value) → (a : Option Addr) → (c : Nat) → (w : World) → Below w0.heap.size w0 w → VRep w0 t cs → Reads w0 (.slice a l.length c) l → l.length ≤ 1000000 → Sized l → WideT 1759218604391 t →
    Calls Try.prog 21 #[.agg cs.toArray, .slice a l.length c] w (RU w0 w (unsB t l) (unsR t l))
  | [], t, cs, a, c, w, h0, hV, _, _, _, _ => by
    obtain ⟨kc, xc, sc, anc, lnc, cnc, aic, lic, cic, rfl⟩ := vrep_five hV
    have := runset_nil kc xc sc anc lnc cnc aic lic cic a c t w0 w h0 (hid_e hV)
    have e : unsB t [] = false ∧ unsR t [] = t := by
      have e1 : unsB t [] = false := by unfold unsB; simp
      exact ⟨e1, by unfold unsR; rw [e1, if_neg (by decide)]⟩
    rw [e.1, e.2]
    exact this
  | s :: r, .node k x tx ns its, cs, a, c, w, h0, hV, hP, hl, hS, hW => by
    obtain ⟨an, cn, ai, ci, xs, rfl, -, -, -, -, -⟩ := hV.parts
    obtain ⟨a', c', e, hc, hA⟩ := id hP
    cases e
    obtain ⟨b, o, rfl, hb, hA⟩ := hA.resolve_left (by simp)
    have hp : w0.cell? ⟨b, o, none⟩ = some (.string s) := hA 0 s rfl
    have hs : s.size ≤ 9223372036854775806 := hS s (.head _)
    have hSr : Sized r := fun s' h => hS s' (.tail _ h)
    have hc' : r.length + 1 ≤ c ∧ c ≤ 9223372036854775807 := by simpa using hc
    have hlr : r.length ≤ 1000000 := by simp only [List.length_cons] at hl; omega
    obtain ⟨o2, ho2⟩ : ∃ o2, Hid ((if c = 1 then o else o + 1) = o2) := ⟨_, hid_e rfl⟩
    have hPt := reads_tail hb hA hc'
    rw [ho2.out] at hPt
    have hWi : its.length ≤ 1759218604391 ∧ WideL 1759218604391 its := by unfold WideT at hW; exact hW
    have hb80 : (its.length + 1) * 80 ≤ 140737488355328 := by omega
    have hil : its.length ≤ 9223372036854775807 := by omega
    have hN : Reads w0 (.slice an ns.length cn) ns := by
      have h := hV
      unfold VRep at h
      obtain ⟨nm, a9, c9, e, h1, h2, h3⟩ := h
      simp only [five, List.cons.injEq, Value.slice.injEq, true_and, and_true] at e
      obtain ⟨rfl, rfl, rfl⟩ := e
      exact h1
    cases hpb : placeB k ns its.length s with
    | true =>
      obtain ⟨i, hi, hlt⟩ := placeB_true hpb
      have hu : its[i]? = some its[i] := List.getElem?_eq_getElem hlt
      obtain ⟨hk, him⟩ := place_keep hpb hi
      have hpl : rplace k ns its.length s = (i : Int) := by unfold rplace; rw [if_pos hpb, hi]
      by_cases hr : r = []
      · subst hr
        obtain ⟨e1, e2⟩ := uns_last (t := .node k x tx ns its) hpb hi hu
        rw [e1, e2]
        rcases hk with rfl | rfl
        · exact runset_last5 x tx an cn ns ai ci its b o c s [] w0 w h0 hs hp (hid_e hV) (hid_e hN) hil hb80 i _ (hid_e hu) (hid_e hpl) (hid_e him) rfl
        · exact runset_last6 x tx an cn ns ai ci its b o c s [] w0 w h0 hs hp (hid_e hV) (hid_e hN) hil hb80 i _ (hid_e hu) (hid_e hpl) (hid_e him) rfl
      · have hr0 : 0 < r.length := by cases r with
          | nil => exact absurd rfl hr
          | cons _ _ => simp
        obtain ⟨e1, e2⟩ := uns_more (t := .node k x tx ns its) (r := r) hpb hi hu hr0
        rw [e1, e2]
        have hrec : Hid (∀ cs W, VRep w0 its[i] cs → Below w0.heap.size w0 W → Calls Try.prog 21 #[.agg cs.toArray, .slice (some ⟨b, o2, none⟩) r.length (c - 1)] W (RU w0 W (unsB its[i] r) (unsR its[i] r))) :=
          fun cs W h1 h2 => runset_any w0 r its[i] cs _ _ W h2 h1 hPt hlr hSr ((wideL_iff _ its).1 hWi.2 _ (List.getElem_mem _))
        rcases hk with rfl | rfl
        · exact runset_more5 x tx an cn ns ai ci its b o c s r w0 w h0 hs hp (hid_e hV) (hid_e hN) hil hb80 i _ (hid_e hu) (hid_e hpl) (hid_e him) hc' o2 ho2 hr0 _ _ hrec
        · exact runset_more6 x tx an cn ns ai ci its b o c s r w0 w h0 hs hp (hid_e hV) (hid_e hN) hil hb80 i _ (hid_e hu) (hid_e hpl) (hid_e him) hc' o2 ho2 hr0 _ _ hrec
    | false =>
      have hpl : rplace k ns its.length s = -1 := by unfold rplace; rw [if_neg (by rw [hpb]; decide)]
      obtain ⟨e1, e2⟩ := uns_miss (t := .node k x tx ns its) (r := r) hpb
      rw [e1, e2]
      exact runset_miss k x tx an cn ns ai ci its b o c s r w0 w h0 hs hp (hid_e hV) (hid_e hN) hil (hid_e hpl)
end Go.Proofs.Ytmlbofbnklmedaa
