import Derived.Test.YtmlbofbnklmedaaT4
import Derived.Test.YtmlbofbnklmedaaT5
import Derived.Test.YtmlbofbnklmedaaT6
import Derived.Test.YtmlbofbnklmedaaT7
import Derived.Test.YtmlbofbnklmedaaJ1
/-! The document's Set of every value. -/
namespace Go.Proofs.Ytmlbofbnklmedaa
open Go Go.RowKit

theorem down_hit {t u X : Tr} {s : ByteArray} {r : List ByteArray} {i : Nat} (h : placeB t.kind t.names t.items.length s = true) (hi : placeI t.kind t.names s = i) (hu : t.items[i]? = some u) :
    (downT t (s :: r)).1 = (downT u r).1 ∧ setR t (s :: r) X = if (downT u r).1 = 0 then withT t.kind t.names t.items s i (setR u r X) else zeroT := by
  have hd : downT t (s :: r) = if (downT u r).1 = 0 then (0, (t, s, i) :: (downT u r).2) else downT u r := by
    rw [downT, if_pos h, hi, Int.toNat_natCast, hu]
  unfold setR setT
  rw [hd]
  by_cases h0 : (downT u r).1 = 0
  · rw [if_pos h0, if_pos rfl, if_pos h0]
    refine ⟨h0.symm, ?_⟩
    rw [if_pos h0]
    rfl
  · rw [if_neg h0, if_neg h0, if_neg h0]
    exact ⟨rfl, rfl⟩
theorem down_new {t X : Tr} {s : ByteArray} {r : List ByteArray} (h : placeB t.kind t.names t.items.length s = false) (hk : t.kind = 6 ∨ (t.kind = 5 ∧ idx s = some t.items.length)) :
    (downT t (s :: r)).1 = 0 ∧ setR t (s :: r) X = withT t.kind t.names t.items s (keepIts t.kind t.names t.items).length (nestS r X) := by
  have hd : downT t (s :: r) = (0, [(t, s, (keepIts t.kind t.names t.items).length)]) := by
    rw [downT, if_neg (by rw [h]; decide), if_pos hk]
  unfold setR setT
  rw [hd]
  exact ⟨rfl, rfl⟩
theorem down_far {t X : Tr} {s : ByteArray} {r : List ByteArray} (h : placeB t.kind t.names t.items.length s = false) (hk : ¬ (t.kind = 6 ∨ (t.kind = 5 ∧ idx s = some t.items.length))) (h5 : t.kind = 5 ∧ (idx s).isSome = true) : (downT t (s :: r)).1 = 22 ∧ setR t (s :: r) X = zeroT := by
  have hd : downT t (s :: r) = (22, []) := by rw [downT, if_neg (by rw [h]; decide), if_neg hk, if_pos h5]
  unfold setR
  rw [hd]
  exact ⟨rfl, rfl⟩
theorem down_cross {t X : Tr} {s : ByteArray} {r : List ByteArray} (h : placeB t.kind t.names t.items.length s = false) (hk : ¬ (t.kind = 6 ∨ (t.kind = 5 ∧ idx s = some t.items.length))) (h5 : ¬ (t.kind = 5 ∧ (idx s).isSome = true)) : (downT t (s :: r)).1 = 21 ∧ setR t (s :: r) X = zeroT := by
  have hd : downT t (s :: r) = (21, []) := by rw [downT, if_neg (by rw [h]; decide), if_neg hk, if_neg h5]
  unfold setR
  rw [hd]
  exact ⟨rfl, rfl⟩
set_option maxHeartbeats 4000000 in
set_option maxRecDepth 100000 in
theorem rset_nil (kc xc : Int) (sc : ByteArray) (anc : Option Addr) (lnc cnc : Nat) (aic : Option Addr) (lic cic : Nat) (kx xx : Int) (sx : ByteArray) (anx : Option Addr) (lnx cnx : Nat) (aix : Option Addr) (lix cix : Nat) (a : Option Addr) (c : Nat) (X : Tr) (w0 w : World) (h0 : Below w0.heap.size w0 w) (hX : Hid (VRep w0 X (five kx xx sx (.slice anx lnx cnx) (.slice aix lix cix)))) :
    Calls Try.prog 20 #[.agg #[.int .i64 kc, .int .i64 xc, .string sc, .slice anc lnc cnc, .slice aic lic cic], .slice a 0 c, .agg #[.int .i64 kx, .int .i64 xx, .string sx, .slice anx lnx cnx, .slice aix lix cix]] w (RS w0 w 0 X) := by
  have hT := tri_new w #[.int .i64 kc, .int .i64 xc, .string sc, .slice anc lnc cnc, .slice aic lic cic] #[.int .i64 kx, .int .i64 xx, .string sx, .slice anx lnx cnx, .slice aix lix cix]
  go_enter Try.func20, Try.ntmps20
  go_upto_region 1 with fail
  generalize ((w.alloc (.cells #[.int .i64 kc, .int .i64 xc, .string sc, .slice anc lnc cnc, .slice aic lic cic] 25)).alloc (.cells #[.int .i64 kx, .int .i64 xx, .string sx, .slice anx lnx cnx, .slice aix lix cix] 25)).alloc (.cells #[.int .i64 0, .int .i64 0, .string ⟨#[]⟩, .slice none 0 0, .slice none 0 0] 25) = X0 at hT ⊢
  have hB := h0.trans (hT.below.mono h0.size)
  have hse : Hid (Seen X0 (fun j => j < w0.heap.size ∨ w.heap.size + 3 ≤ j) X (five kx xx sx (.slice anx lnx cnx) (.slice aix lix cix))) := fun W' ha => seen_rep hX.out W' ⟨Nat.le_trans hB.size ha.1, fun p u hp hc => ha.2 p u (.inl hp) ((hB.cell (cell_lt hc)).trans hc)⟩
  obtain ⟨y0, y1, y2, y3, y4, -⟩ := row_cells hT.two
  obtain ⟨z0, z1, z2, z3, z4, zf⟩ := row_cells hT.three
  have zf0 := zf 0; have zf1 := zf 1; have zf2 := zf 2; have zf3 := zf 3; have zf4 := zf 4
  clear zf
  go_wp2_with fail
  obtain ⟨hfe, hbe⟩ := rs_end hT h0.size hse.out (.int .i64 kx) (.int .i64 xx) (.string sx) (.slice anx lnx cnx) (.slice aix lix cix)
  have hr5 := put5_cells hT.three (.int .i64 kx) (.int .i64 xx) (.string sx) (.slice anx lnx cnx) (.slice aix lix cix)
  have r0 := hr5 0; have r1 := hr5 1; have r2 := hr5 2; have r3 := hr5 3; have r4 := hr5 4
  clear hr5
  refine bodyPost_ret (v := .tuple #[.agg #[.int .i64 kx, .int .i64 xx, .string sx, .slice anx lnx cnx, .slice aix lix cix], .int .i64 0]) (by simp [results, Try.results20, go_sem, r0, r1, r2, r3, r4]) rfl ?_
  exact ⟨_, _, _, _, _, _, _, _, _, rfl, hfe, hbe⟩
theorem rset_any (kx xx : Int) (sx : ByteArray) (anx : Option Addr) (lnx cnx : Nat) (aix : Option Addr) (lix cix : Nat) (X : Tr) (w0 : World) (hX : VRep w0 X (five kx xx sx (.slice anx lnx cnx) (.slice aix lix cix))) : (l : List ByteArray) → (t : Tr) → (cs : List Value) → (a : Option Addr) → (c : Nat) → (w : World) → Below w0.heap.size w0 w → VRep w0 t cs → Reads w0 (.slice a l.length c) l → l.length ≤ 1000000 → Sized l → WideT 1759218604391 t →
    Calls Try.prog 20 #[.agg cs.toArray, .slice a l.length c, .agg #[.int .i64 kx, .int .i64 xx, .string sx, .slice anx lnx cnx, .slice aix lix cix]] w (RS w0 w (downT t l).1 (setR t l X))
  | [], t, cs, a, c, w, h0, hV, _, _, _, _ => by
    obtain ⟨kc, xc, sc, anc, lnc, cnc, aic, lic, cic, rfl⟩ := vrep_five hV
    have := rset_nil kc xc sc anc lnc cnc aic lic cic kx xx sx anx lnx cnx aix lix cix a c X w0 w h0 (hid_e hX)
    have e : (downT t []).1 = 0 ∧ setR t [] X = X := by cases t; exact ⟨rfl, rfl⟩
    rw [e.1, e.2]
    exact this
  | s :: r, .node k x tx ns its, cs, a, c, w, h0, hV, hP, hl, hS, hW => by
    obtain ⟨an, cn, ai, ci, xs, rfl, -, -, -, -, -⟩ := hV.parts
    obtain ⟨a', c', e, hc, hA⟩ := id hP
    cases e
    obtain ⟨b, o, rfl, hb, hA⟩ := hA.resolve_left (by simp)
    have hp : w0.cell? ⟨b, o, none⟩ = some (.string s) := hA 0 s rfl
    have hs : s.size ≤ 9223372036854775806 := hS s (.head _)
    have hSr : Sized r := fun s' h => hS s' (.tail _ h)
    have hc' : r.length + 1 ≤ c ∧ c ≤ 9223372036854775807 := by simpa using hc
    have hlr : r.length ≤ 1000000 := by simp only [List.length_cons] at hl; omega
    obtain ⟨o2, ho2⟩ : ∃ o2, Hid ((if c = 1 then o else o + 1) = o2) := ⟨_, hid_e rfl⟩
    have hPt := reads_tail hb hA hc'
    rw [ho2.out] at hPt
    have hWi : its.length ≤ 1759218604391 ∧ WideL 1759218604391 its := by unfold WideT at hW; exact hW
    have hb80 : (its.length + 1) * 80 ≤ 140737488355328 := by omega
    have hil : its.length ≤ 9223372036854775807 := by omega
    have hN : Reads w0 (.slice an ns.length cn) ns := by
      have h := hV
      unfold VRep at h
      obtain ⟨nm, a9, c9, e, h1, h2, h3⟩ := h
      simp only [five, List.cons.injEq, Value.slice.injEq, true_and, and_true] at e
      obtain ⟨rfl, rfl, rfl⟩ := e
      exact h1
    cases hpb : placeB k ns its.length s with
    | true =>
      obtain ⟨i, hi, hlt⟩ := placeB_true hpb
      have hu : its[i]? = some its[i] := List.getElem?_eq_getElem hlt
      obtain ⟨hk, him⟩ := place_keep hpb hi
      have hpl : rplace k ns its.length s = (i : Int) := by unfold rplace; rw [if_pos hpb, hi]
      obtain ⟨e1, e2⟩ := down_hit (t := .node k x tx ns its) (X := X) (r := r) hpb hi hu
      rw [e1, e2]
      have hrec : Hid (∀ cs W, VRep w0 its[i] cs → Below w0.heap.size w0 W → Calls Try.prog 20 #[.agg cs.toArray, .slice (some ⟨b, o2, none⟩) r.length (c - 1), .agg #[.int .i64 kx, .int .i64 xx, .string sx, .slice anx lnx cnx, .slice aix lix cix]] W (RS w0 W (downT its[i] r).1 (setR its[i] r X))) :=
        fun cs W h1 h2 => rset_any kx xx sx anx lnx cnx aix lix cix X w0 hX r its[i] cs _ _ W h2 h1 hPt hlr hSr ((wideL_iff _ its).1 hWi.2 _ (List.getElem_mem _))
      rcases hk with rfl | rfl
      · have hi2 : (idx s).isSome = true := by unfold placeB at hpb; simp at hpb; exact hpb.1
        exact rset_hit5 x tx an cn ns ai ci its kx xx sx anx lnx cnx aix lix cix b o c s r w0 w h0 hs hc' o2 ho2 hp (hid_e hV) hb80 _ rfl hi2 i _ (hid_e hu) (hid_e hpl) (hid_e him) _ _ hrec
      · exact rset_hit6 x tx an cn ns ai ci its kx xx sx anx lnx cnx aix lix cix b o c s r w0 w h0 hs hc' o2 ho2 hp (hid_e hV) hb80 _ _ rfl rfl i _ (hid_e hu) (hid_e hpl) (hid_e him) _ _ hrec
    | false =>
      have hpl : rplace k ns its.length s = -1 := by unfold rplace; rw [if_neg (by rw [hpb]; decide)]
      by_cases h6 : k = 6
      · subst h6
        obtain ⟨e1, e2⟩ := down_new (t := .node 6 x tx ns its) (X := X) (r := r) hpb (.inl rfl)
        rw [e1, e2]
        exact rset_new6 x tx an cn ns ai ci its kx xx sx anx lnx cnx aix lix cix b o c s r w0 w h0 hs hc' o2 ho2 hp hlr X (hid_e hV) (hid_e hX) (hid_e hPt) hb80 _ _ rfl rfl (hid_e hpl)
      · by_cases h5 : k = 5 ∧ (idx s).isSome = true
        · obtain ⟨rfl, h5⟩ := h5
          obtain ⟨n, hn⟩ := Option.isSome_iff_exists.1 h5
          by_cases hnl : n = its.length
          · subst hnl
            obtain ⟨e1, e2⟩ := down_new (t := .node 5 x tx ns its) (X := X) (r := r) hpb (.inr ⟨rfl, hn⟩)
            rw [e1, e2]
            exact rset_new5 x tx an cn ns ai ci its kx xx sx anx lnx cnx aix lix cix b o c s r w0 w h0 hs hc' o2 ho2 hp hlr X (hid_e hV) (hid_e hX) (hid_e hPt) hb80 (by rw [hn]; rfl) h5 (hid_e hpl)
          · have hge : its.length ≤ n := by
              unfold placeB at hpb
              simp [hn] at hpb
              omega
            obtain ⟨e1, e2⟩ := down_far (t := .node 5 x tx ns its) (X := X) (r := r) hpb (fun h => h.elim (fun h => by cases h) (fun h => hnl (Option.some.inj (hn.symm.trans h.2)))) ⟨rfl, h5⟩
            rw [e1, e2]
            exact rset_far x tx an cn ns ai ci its kx xx sx anx lnx cnx aix lix cix b o c s r w0 w h0 hs hp (hid_e hN) hil n (by rw [hn]; rfl) h5 (hid_e hpl) (by omega)
        · obtain ⟨e1, e2⟩ := down_cross (t := .node k x tx ns its) (X := X) (r := r) hpb (fun h => h.elim (fun h => h6 h) (fun h => h5 ⟨h.1, by rw [h.2]; rfl⟩)) h5
          rw [e1, e2]
          have h5o : k ≠ 5 ∨ (idx s).isSome = false := by
            by_cases h : k = 5
            · refine .inr ?_
              cases hh : (idx s).isSome with
              | true => exact absurd ⟨h, hh⟩ h5
              | false => rfl
            · exact .inl h
          exact rset_cross k x tx an cn ns ai ci its kx xx sx anx lnx cnx aix lix cix b o c s r w0 w h0 hs hp h6 (h5o)
end Go.Proofs.Ytmlbofbnklmedaa
